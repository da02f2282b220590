package cmd

import (
	"bytes"
	"math"
	"slices"
	"strings"
	"testing"

	"exchequer/api"
)

// mostShort, mostLong and mostTiny are the last numbers that 2 bytes, 4 bytes and one have room for, written out.
const (
	mostTiny  = 255
	mostShort = 65535
	mostLong  = 4294967295
)

// plain is a command whose numbers are all unlike, with a name and two lines.
func plain() api.Cmd {
	return api.Cmd{
		Kind: api.Post, Year: 0x0102, Next: 0x0304, Fund: 0x0506, Object: 0x0708, Node: 0x090a, Parent: 0x0b0c, Doc: 0x0d0e0f10, Line: 0x11, Amount: 0x1213141516171819,
		Absolute: true, Name: "Roads",
		Lines: []api.Line{{Fund: 0x2122, Object: 0x2324, Node: 0x2526, Amount: 0x2728292a2b2c2d2e}, {Fund: 0xfffe, Object: 0xfdfc, Node: 0xfbfa, Amount: -2}},
	}
}

// plainBytes are the bytes of plain.
func plainBytes() []byte {
	return []byte{
		7, 1, 2, 3, 4, 5, 6, 7, 8, 9, 10, 11, 12, 13, 14, 15, 16, 0x11, 0x12, 0x13, 0x14, 0x15, 0x16, 0x17, 0x18, 0x19, 1,
		5, 'R', 'o', 'a', 'd', 's',
		2, 0x21, 0x22, 0x23, 0x24, 0x25, 0x26, 0x27, 0x28, 0x29, 0x2a, 0x2b, 0x2c, 0x2d, 0x2e,
		0xff, 0xfe, 0xfd, 0xfc, 0xfb, 0xfa, 0xff, 0xff, 0xff, 0xff, 0xff, 0xff, 0xff, 0xfe,
	}
}

// changed is plain with a change.
func changed(change func(c *api.Cmd)) api.Cmd {
	c := plain()
	change(&c)
	return c
}

// numbersOf are the places of a command's numbers that have one byte, two and four, but its kind.
func numbersOf(c *api.Cmd) (tiny, short, long []*int) {
	short = []*int{&c.Year, &c.Next, &c.Fund, &c.Object, &c.Node, &c.Parent}
	for i := range c.Lines {
		short = append(short, &c.Lines[i].Fund, &c.Lines[i].Object, &c.Lines[i].Node)
	}
	return []*int{&c.Line}, short, []*int{&c.Doc}
}

// like tells whether a and b are the same, asked without Same.
func like(a, b api.Cmd) bool {
	return a.Kind == b.Kind && a.Year == b.Year && a.Next == b.Next && a.Fund == b.Fund && a.Object == b.Object && a.Node == b.Node &&
		a.Parent == b.Parent && a.Doc == b.Doc && a.Line == b.Line && a.Amount == b.Amount && a.Absolute == b.Absolute && a.Name == b.Name && slices.Equal(a.Lines, b.Lines)
}

// right looks that a command is just these bytes, and these bytes it.
func right(t *testing.T, c api.Cmd, want []byte) {
	t.Helper()
	if got, err := Encode(c); err != api.OK || !bytes.Equal(got, want) {
		t.Errorf("Encode %v: %v, %d, not %v", c, got, err, want)
	}
	if got, err := Decode(want); err != api.OK || !like(got, c) {
		t.Errorf("Decode %v: %v, %d, not %v", want, got, err, c)
	}
}

// comesBack looks that a command is some bytes, and those it.
func comesBack(t *testing.T, c api.Cmd) {
	t.Helper()
	b, err := Encode(c)
	if err != api.OK {
		t.Errorf("Encode %v: %d", c, err)
		return
	}
	if got, err := Decode(b); err != api.OK || !like(got, c) {
		t.Errorf("Decode %v: %v, %d, not %v", b, got, err, c)
	}
}

// refused looks that a command is no bytes.
func refused(t *testing.T, c api.Cmd) {
	t.Helper()
	if b, err := Encode(c); err != api.ErrArg || b != nil {
		t.Errorf("Encode %v: %v, %d", c, b, err)
	}
}

// bad looks that bytes are no command.
func bad(t *testing.T, b []byte) {
	t.Helper()
	if c, err := Decode(b); err != api.ErrBad || !like(c, api.Cmd{}) || c.Lines != nil {
		t.Errorf("Decode %v: %v, %d", b, c, err)
	}
}

// P36.1: from NewFund to AskYear commands are known, from AskBalance on they ask.
func TestKinds(t *testing.T) {
	for _, c := range []struct {
		kind        int
		known, asks bool
	}{
		{1, true, false}, {2, true, false}, {7, true, false}, {12, true, false}, {13, true, false}, {14, true, true}, {15, true, true}, {19, true, true}, {20, true, true},
		{0, false, false}, {21, false, false}, {-1, false, false}, {-14, false, false}, {255, false, false}, {256 + 14, false, false}, {math.MinInt, false, false}, {math.MaxInt, false, false},
		{api.NewFund, true, false}, {api.CloseYear, true, false}, {api.AskBalance, true, true}, {api.AskYear, true, true},
	} {
		if known, asks := Known(c.kind), Asks(c.kind); known != c.known || asks != c.asks {
			t.Errorf("%d: %t, %t", c.kind, known, asks)
		}
	}
}

// P36.1: each number where it is to stand, the highest byte first.
func TestEncode(t *testing.T) {
	right(t, plain(), plainBytes())
	// With nothing but a kind.
	for kind := 1; kind <= 20; kind++ {
		want := make([]byte, 29)
		want[0] = byte(kind)
		right(t, api.Cmd{Kind: kind}, want)
		right(t, api.Cmd{Kind: kind, Lines: []api.Line{}}, want)
	}
	// One number alone.
	for at, c := range map[int]api.Cmd{
		2: {Kind: 9, Year: 77}, 4: {Kind: 9, Next: 77}, 6: {Kind: 9, Fund: 77}, 8: {Kind: 9, Object: 77}, 10: {Kind: 9, Node: 77}, 12: {Kind: 9, Parent: 77}, 16: {Kind: 9, Doc: 77}, 17: {Kind: 9, Line: 77}, 25: {Kind: 9, Amount: 77},
	} {
		want := make([]byte, 29)
		want[0], want[at] = 9, 77
		right(t, c, want)
	}
}

// P36.1: amounts of any sign; names of any bytes.
func TestEncodeAmounts(t *testing.T) {
	for _, c := range []struct {
		amount int
		want   []byte
	}{
		{0, []byte{0, 0, 0, 0, 0, 0, 0, 0}}, {1, []byte{0, 0, 0, 0, 0, 0, 0, 1}}, {-1, []byte{255, 255, 255, 255, 255, 255, 255, 255}},
		{math.MaxInt, []byte{127, 255, 255, 255, 255, 255, 255, 255}}, {math.MinInt, []byte{128, 0, 0, 0, 0, 0, 0, 0}}, {1 << 53, []byte{0, 32, 0, 0, 0, 0, 0, 0}},
	} {
		want := plainBytes()
		copy(want[18:], c.want)
		right(t, changed(func(to *api.Cmd) { to.Amount = c.amount }), want)
		want = plainBytes()
		copy(want[40:], c.want)
		right(t, changed(func(to *api.Cmd) { to.Lines[0].Amount = c.amount }), want)
	}
	for _, name := range []string{"", "a", "\x00", "\xff\xfe", "Ünïcøde", strings.Repeat("n", 20), strings.Repeat("n", mostTiny-1), strings.Repeat("\x00", mostTiny)} {
		want := slices.Concat(plainBytes()[:27], []byte{byte(len(name))}, []byte(name), plainBytes()[33:])
		right(t, changed(func(c *api.Cmd) { c.Name = name }), want)
	}
}

// P36.1: as many lines as one byte tells of.
func TestEncodeLines(t *testing.T) {
	var l []api.Line
	for n := range mostTiny + 3 {
		c := changed(func(c *api.Cmd) { c.Lines = l })
		if n > mostTiny {
			refused(t, c)
		} else {
			comesBack(t, c)
			if b, _ := Encode(c); len(b) != 34+14*n || b[33] != byte(n) {
				t.Errorf("%d lines: %d bytes, with %d", n, len(b), b[33])
			}
		}
		l = append(l, api.Line{Fund: n, Object: n + 1, Node: n + 2, Amount: -n})
	}
}

// P36.1: numbers at the edges of their bytes, each on its own.
func TestEncodeEdges(t *testing.T) {
	one := plain()
	tiny, short, long := numbersOf(&one)
	for i, group := range [][]*int{tiny, short, long} {
		most := []int{mostTiny, mostShort, mostLong}[i]
		for _, n := range group {
			was := *n
			for _, *n = range []int{0, 1, most - 1, most} {
				comesBack(t, one)
			}
			for _, *n = range []int{-1, most + 1, -most, math.MinInt, math.MaxInt} {
				refused(t, one)
			}
			*n = was
		}
	}
	comesBack(t, one)
}

// P36.1: kinds that are not known, and names and lines that are too long.
func TestEncodeWrong(t *testing.T) {
	refused(t, api.Cmd{})
	for _, kind := range []int{0, 21, 255, 256 + 7, -1, math.MinInt, math.MaxInt} {
		refused(t, changed(func(c *api.Cmd) { c.Kind = kind }))
		refused(t, api.Cmd{Kind: kind})
	}
	for _, n := range []int{mostTiny + 1, 2*mostTiny + 2, mostShort + 1} {
		refused(t, changed(func(c *api.Cmd) { c.Name = strings.Repeat("n", n) }))
		refused(t, changed(func(c *api.Cmd) { c.Lines = make([]api.Line, n) }))
	}
	// The last of many lines.
	long := make([]api.Line, mostTiny)
	long[mostTiny-1].Node = mostShort
	comesBack(t, changed(func(c *api.Cmd) { c.Lines = long }))
	long[mostTiny-1].Node++
	refused(t, changed(func(c *api.Cmd) { c.Lines = long }))
}

// P36.1: bytes that end too early, or too late; with the chapter's example.
func TestDecodeLength(t *testing.T) {
	bad(t, nil)
	bad(t, []byte{})
	for _, b := range [][]byte{plainBytes(), append([]byte{1}, make([]byte, 28)...)} {
		for n := range b {
			bad(t, b[:n])
			// What stands in the spare room is not told.
			bad(t, slices.Clip(b[:n]))
		}
		bad(t, append(slices.Clone(b), 0))
		bad(t, append(slices.Clone(b), b...))
		bad(t, append(slices.Clone(b), make([]byte, 14)...))
		bad(t, append([]byte{0}, b...))
	}
	bad(t, make([]byte, 29))
	bad(t, bytes.Repeat([]byte{255}, 4000))
	bad(t, make([]byte, 100000))
}

// P36.1: each byte changed to each other one: what is a command still is another one, with just these bytes.
func TestDecodeBytes(t *testing.T) {
	for at := range plainBytes() {
		for n := range 256 {
			b := plainBytes()
			if b[at] == byte(n) {
				continue
			}
			b[at] = byte(n)
			wrong := at == 0 && (n < 1 || n > 20) || at == 26 && n > 1 || at == 27 || at == 33
			if wrong {
				bad(t, b)
				continue
			}
			c, err := Decode(b)
			if err != api.OK || like(c, plain()) {
				t.Errorf("byte %d is %d: %v, %d", at, n, c, err)
			}
			right(t, c, b)
		}
	}
}

// P36.1: how many bytes a name has, and how many lines there are, that do not agree with what there is.
func TestDecodeCounts(t *testing.T) {
	for _, c := range []struct{ name, lines byte }{{0, 0}, {1, 1}, {20, 6}, {255, 255}, {0, 255}, {255, 0}} {
		b := append([]byte{9}, make([]byte, 26)...)
		b = append(b, c.name)
		b = append(b, bytes.Repeat([]byte{'n'}, int(c.name))...)
		b = append(b, c.lines)
		b = append(b, make([]byte, 14*int(c.lines))...)
		right(t, api.Cmd{Kind: 9, Name: strings.Repeat("n", int(c.name)), Lines: make([]api.Line, c.lines)}, b)
		if c.lines < 255 {
			b[28+int(c.name)]++
			bad(t, b)
			b[28+int(c.name)]--
		}
		if c.lines > 0 {
			b[28+int(c.name)]--
			bad(t, b)
		}
	}
	// A name that reaches to the end, or beyond it.
	for n := range 40 {
		bad(t, append(append([]byte{9}, make([]byte, 26)...), append([]byte{20}, make([]byte, n)[:min(n, 20)]...)...))
		bad(t, append(append([]byte{9}, make([]byte, 26)...), append([]byte{255}, make([]byte, n)...)...))
	}
}

// P36.2: commands with numbers of any kind come back.
func TestComesBack(t *testing.T) {
	rand := uint64(1)
	next := func(n int) int {
		rand = rand*6364136223846793005 + 1442695040888963407
		return int(rand>>33) % n
	}
	for range 5000 {
		c := api.Cmd{Kind: 1 + next(20), Doc: next(2) * (next(mostShort) << 16), Line: next(256), Amount: next(1<<31) << next(33) * (next(3) - 1), Absolute: next(2) == 0}
		for _, n := range []*int{&c.Year, &c.Next, &c.Fund, &c.Object, &c.Node, &c.Parent} {
			*n = next(2) * next(65536)
		}
		for range next(30) {
			c.Name += string([]byte{byte(next(256))})
		}
		for range next(8) {
			c.Lines = append(c.Lines, api.Line{Fund: next(65536), Object: next(65536), Node: next(65536), Amount: next(1<<31) << next(33) * (next(3) - 1)})
		}
		comesBack(t, c)
		b, _ := Encode(c)
		if len(b) != 29+len(c.Name)+14*len(c.Lines) {
			t.Errorf("%v has %d bytes", c, len(b))
		}
		// What is no command any more, or another one, is not it.
		b[next(len(b))] ^= byte(1 + next(255))
		if got, err := Decode(b); err == api.OK {
			if again, _ := Encode(got); like(got, c) || !bytes.Equal(again, b) {
				t.Errorf("Decode %v: %v", b, got)
			}
		} else {
			bad(t, b)
		}
	}
}

// P36.1: field by field, whether there are bytes of it or not.
func TestSame(t *testing.T) {
	same := func(a, b api.Cmd, want bool) {
		t.Helper()
		if Same(a, b) != want || Same(b, a) != want {
			t.Errorf("Same %v, %v is not %t", a, b, want)
		}
	}
	same(api.Cmd{}, api.Cmd{}, true)
	same(api.Cmd{}, api.Cmd{Lines: []api.Line{}}, true)
	same(plain(), plain(), true)
	same(plain(), api.Cmd{}, false)
	for i, change := range []func(c *api.Cmd){
		func(c *api.Cmd) { c.Kind++ }, func(c *api.Cmd) { c.Year++ }, func(c *api.Cmd) { c.Next++ }, func(c *api.Cmd) { c.Fund++ }, func(c *api.Cmd) { c.Object++ },
		func(c *api.Cmd) { c.Node++ }, func(c *api.Cmd) { c.Parent++ }, func(c *api.Cmd) { c.Doc++ }, func(c *api.Cmd) { c.Line++ }, func(c *api.Cmd) { c.Amount = -c.Amount },
		func(c *api.Cmd) { c.Absolute = false }, func(c *api.Cmd) { c.Name = "roads" }, func(c *api.Cmd) { c.Name += "\x00" }, func(c *api.Cmd) { c.Name = "" },
		func(c *api.Cmd) { c.Lines = c.Lines[:1] }, func(c *api.Cmd) { c.Lines = nil }, func(c *api.Cmd) { c.Lines = append(c.Lines, api.Line{}) }, func(c *api.Cmd) { slices.Reverse(c.Lines) },
		func(c *api.Cmd) { c.Lines[1].Fund-- }, func(c *api.Cmd) { c.Lines[1].Object-- }, func(c *api.Cmd) { c.Lines[1].Node-- }, func(c *api.Cmd) { c.Lines[1].Amount-- }, func(c *api.Cmd) { c.Lines[0].Amount-- },
		func(c *api.Cmd) { c.Year, c.Next = c.Next, c.Year }, func(c *api.Cmd) { c.Fund, c.Object = c.Object, c.Fund }, func(c *api.Cmd) { c.Node, c.Parent = c.Parent, c.Node }, func(c *api.Cmd) { c.Doc, c.Line = c.Line, c.Doc },
		func(c *api.Cmd) { c.Kind = math.MinInt }, func(c *api.Cmd) { c.Year += 1 << 16 }, func(c *api.Cmd) { c.Doc -= 1 << 32 }, func(c *api.Cmd) { c.Line += 1 << 8 }, func(c *api.Cmd) { c.Node = -c.Node },
	} {
		c := changed(change)
		same(plain(), c, false)
		if !Same(c, changed(change)) {
			t.Errorf("change %d is not the same as itself", i)
		}
	}
}

// R3: what is handed in stays, its spare room too, and what is answered may be changed.
func TestNothingShared(t *testing.T) {
	b := append(plainBytes(), 1, 2, 3)
	c, err := Decode(b[:len(b)-3])
	if err != api.OK || !like(c, plain()) || !bytes.Equal(b, append(plainBytes(), 1, 2, 3)) {
		t.Fatalf("%v, %d, of %v", c, err, b)
	}
	clear(b)
	if !like(c, plain()) {
		t.Errorf("the command is %v now", c)
	}
	room := append(plain().Lines, api.Line{Fund: 5})
	c.Lines = room[:2]
	got, _ := Encode(c)
	clear(got[:cap(got)])
	if again, err := Encode(c); err != api.OK || !bytes.Equal(again, plainBytes()) || room[2] != (api.Line{Fund: 5}) || !like(c, plain()) {
		t.Errorf("%v, %d, of %v", again, err, c)
	}
}
