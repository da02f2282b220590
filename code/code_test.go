package code

import (
	"fmt"
	"math"
	"regexp"
	"strings"
	"testing"
)

// wrongFunds and wrongObjects are what may not be; some are right modulo a power of two, or but for their sign.
var (
	wrongFunds   = []int{math.MinInt, math.MinInt + 100, -1 << 32, -999, -500, -100, -1, 0, 1, 10, 98, 99, 1000, 1001, 5010, 9999, 1<<16 + 100, 1<<32 + 100, 1<<62 + 500, math.MaxInt}
	wrongObjects = []int{math.MinInt, math.MinInt + 1010, -1 << 32, -5999, -1010, -1000, -1, 0, 1, 100, 500, 998, 999, 6000, 6001, 9999, 10100, 1<<16 + 1010, 1<<32 + 1010, 1<<62 + 1010, math.MaxInt}
)

// form is what a code looks like.
var form = regexp.MustCompile(`\A[1-9][0-9][0-9]\.[1-5][0-9][0-9][0-9]\z`)

// P16.1
func TestFund(t *testing.T) {
	for n := -2000; n <= 20000; n++ {
		if got := Fund(n); got != (n >= 100 && n <= 999) {
			t.Errorf("Fund(%d): %v", n, got)
		}
	}
	for _, n := range wrongFunds {
		if Fund(n) {
			t.Errorf("Fund(%d)", n)
		}
	}
}

// P16.1
func TestObject(t *testing.T) {
	for n := -7000; n <= 70000; n++ {
		if got := Object(n); got != (n >= 1000 && n <= 5999) {
			t.Errorf("Object(%d): %v", n, got)
		}
	}
	for _, n := range wrongObjects {
		if Object(n) {
			t.Errorf("Object(%d)", n)
		}
	}
}

// P16.1
func TestClass(t *testing.T) {
	for _, c := range [][2]int{
		{999, 0}, {1000, 1}, {1010, 1}, {1900, 1}, {1999, 1}, {2000, 2}, {2900, 2}, {2999, 2}, {3000, 3}, {3999, 3},
		{4000, 4}, {4999, 4}, {5000, 5}, {5010, 5}, {5999, 5}, {6000, 0},
	} {
		if got := Class(c[0]); got != c[1] {
			t.Errorf("Class(%d): %d", c[0], got)
		}
	}
	for n := 1000; n <= 5999; n++ {
		if got := Class(n); got != int(fmt.Sprint(n)[0]-'0') {
			t.Errorf("Class(%d): %d", n, got)
		}
	}
	for _, n := range wrongObjects {
		if got := Class(n); got != 0 {
			t.Errorf("Class(%d): %d", n, got)
		}
	}
}

// P16.1: four are fixed, and no other.
func TestFixed(t *testing.T) {
	fixed := map[int]bool{1010: true, 1900: true, 2900: true, 3000: true}
	for n := -7000; n <= 70000; n++ {
		if got := Fixed(n); got != fixed[n] {
			t.Errorf("Fixed(%d): %v", n, got)
		}
	}
	for n := range fixed {
		for _, not := range []int{1<<16 + n, 1<<32 + n, 1<<62 + n, math.MinInt + n} {
			if Fixed(not) {
				t.Errorf("Fixed(%d)", not)
			}
		}
	}
	if Fixed(math.MinInt) || Fixed(math.MaxInt) {
		t.Error("Fixed of what is no object")
	}
}

// P16.1
func TestPrint(t *testing.T) {
	for _, c := range []struct {
		fund, object int
		want         string
	}{
		{100, 5010, "100.5010"}, {100, 1000, "100.1000"}, {999, 5999, "999.5999"}, {200, 1900, "200.1900"}, {507, 4203, "507.4203"},
		{99, 5010, ""}, {1000, 5010, ""}, {100, 999, ""}, {100, 6000, ""}, {99, 6000, ""}, {0, 0, ""}, {5010, 100, ""}, {-100, 5010, ""}, {100, -5010, ""},
	} {
		if got := Print(c.fund, c.object); got != c.want {
			t.Errorf("Print(%d, %d): %q", c.fund, c.object, got)
		}
	}
}

// P16.1: "" unless both are such.
func TestPrintOfWrong(t *testing.T) {
	for _, fund := range wrongFunds {
		for _, object := range append([]int{1000, 1010, 5010, 5999}, wrongObjects...) {
			if got := Print(fund, object); got != "" {
				t.Errorf("Print(%d, %d): %q", fund, object, got)
			}
		}
	}
	for _, object := range wrongObjects {
		for _, fund := range []int{100, 500, 999} {
			if got := Print(fund, object); got != "" {
				t.Errorf("Print(%d, %d): %q", fund, object, got)
			}
		}
	}
}

// P16.1, P16.2: all codes there are.
func TestParseOfPrint(t *testing.T) {
	for fund := 100; fund <= 999; fund++ {
		for object := 1000; object <= 5999; object++ {
			s := Print(fund, object)
			if f, o, ok := Parse(s); f != fund || o != object || !ok {
				t.Fatalf("Parse(%q), Print of %d and %d: %d, %d, %v", s, fund, object, f, o, ok)
			}
		}
	}
}

// P16.1: codes that Print had no hand in.
func TestParse(t *testing.T) {
	for _, c := range []struct {
		s            string
		fund, object int
	}{
		{"100.1000", 100, 1000}, {"100.5010", 100, 5010}, {"123.4567", 123, 4567}, {"999.5999", 999, 5999}, {"907.1010", 907, 1010},
	} {
		if f, o, ok := Parse(c.s); f != c.fund || o != c.object || !ok {
			t.Errorf("Parse(%q): %d, %d, %v", c.s, f, o, ok)
		}
	}
}

// P16.1, R2: what is no Print is nothing; Print of what is no code, "", too.
func TestParseOfWrong(t *testing.T) {
	for _, s := range []string{
		"", ".", "100", "100.", ".5010", "5010", "1005010", "100 5010", "100,5010", "100..5010", "100.50.10", ".100.5010", "100.5010.", "1.00.5010",
		"099.5010", "99.5010", "0100.5010", "1000.5010", "100.0999", "100.999", "100.6000", "100.9999", "100.05010", "100.50100", "000.0000", "0.0",
		"+10.5010", "+100.5010", "-10.5010", "-100.5010", "100.+501", "100.+5010", "100.-501", "100.-5010", " 100.5010", "100.5010 ", "100 .5010", "100. 5010",
		"100.5010\n", "100.5010\x00", "\x00100.5010", "100.501\x00", "1_0.5010", "0x1.5010", "1e2.5010", "100.5e3", "100.501O", "l00.5010", "abc.defg",
		"5010.100", "５00.5010", "100.５", "\u0661\u0660\u0660.5010", "\xff\xff\xff.\xff\xff\xff\xff", "100．5010",
		"18446744073709551716.5010", "4294967396.5010", "100.18446744073709556626", "100.4294972306",
		strings.Repeat("0", 1000) + "100.5010", "100.5010" + strings.Repeat("0", 1000), strings.Repeat(".", 8), strings.Repeat("1", 8),
	} {
		isNone(t, s)
	}
}

func isNone(t *testing.T, s string) {
	t.Helper()
	if f, o, ok := Parse(s); f != 0 || o != 0 || ok {
		t.Errorf("Parse(%q): %d, %d, %v", s, f, o, ok)
	}
}

// isParsed looks whether s is Print of what is parsed of it, and whether that is so just if it has a code's form.
func isParsed(t *testing.T, s string) {
	t.Helper()
	if !form.MatchString(s) {
		isNone(t, s)
		return
	}
	if f, o, ok := Parse(s); !ok || Print(f, o) != s {
		t.Errorf("Parse(%q): %d, %d, %v", s, f, o, ok)
	}
}

// P16.1: codes with a byte that is another, is left out, is there once more, or stands behind.
func TestParseOfNear(t *testing.T) {
	for _, s := range []string{"100.1000", "100.5010", "999.5999", "507.4203", "190.2900"} {
		for i := range len(s) {
			isParsed(t, s[:i])
			isParsed(t, s[i:])
			isParsed(t, s[:i]+s[i+1:])
			for c := range 256 {
				isParsed(t, s[:i]+string([]byte{byte(c)})+s[i+1:])
				isParsed(t, s[:i]+string([]byte{byte(c)})+s[i:])
			}
		}
		for c := range 256 {
			isParsed(t, s+string([]byte{byte(c)}))
		}
	}
}

// P16.1: all numbers of up to four digits on either side, those with noughts ahead too.
func TestParseOfNumbers(t *testing.T) {
	for n := range 10000 {
		for _, f := range []string{"%d.5010", "%03d.5010", "%04d.5010", "100.%d", "100.%03d", "100.%04d", "100.%05d"} {
			isParsed(t, fmt.Sprintf(f, n))
		}
	}
}
