package reply

import (
	"bytes"
	"math"
	"slices"
	"strings"
	"testing"

	"exchequer/api"
)

// mostThere is how many numbers, and how many bytes of a text, have room, written out.
const mostThere = 65535

// plain is a reply with two numbers and a text.
func plain() api.Reply {
	return api.Reply{Code: 15, Nums: []int{0x0102030405060708, -2}, Text: "Roads"}
}

// plainBytes are the bytes of plain.
func plainBytes() []byte {
	return []byte{
		15,
		0, 2, 1, 2, 3, 4, 5, 6, 7, 8, 255, 255, 255, 255, 255, 255, 255, 254,
		0, 5, 'R', 'o', 'a', 'd', 's',
	}
}

// like tells whether a and b are the same, asked without Same.
func like(a, b api.Reply) bool {
	if a.Code != b.Code || a.Text != b.Text || len(a.Nums) != len(b.Nums) {
		return false
	}
	for i, n := range a.Nums {
		if b.Nums[i] != n {
			return false
		}
	}
	return true
}

// right looks that a reply is just these bytes, and these bytes it.
func right(t *testing.T, r api.Reply, want []byte) {
	t.Helper()
	if got := Encode(r); !bytes.Equal(got, want) {
		t.Errorf("Encode %v: %v, not %v", r, got, want)
	}
	if got, err := Decode(want); err != api.OK || !like(got, r) {
		t.Errorf("Decode %v: %v, %d, not %v", want, got, err, r)
	}
}

// held looks that a reply has the bytes of another one, which is what they are.
func held(t *testing.T, r, as api.Reply) {
	t.Helper()
	b := Encode(r)
	if !bytes.Equal(b, Encode(as)) {
		t.Errorf("Encode of %d, %d numbers, %d bytes: %d bytes, unlike the other's", r.Code, len(r.Nums), len(r.Text), len(b))
	}
	if got, err := Decode(b); err != api.OK || !like(got, as) {
		t.Errorf("Decode of %d bytes: %d, %d numbers, %d bytes, %d", len(b), got.Code, len(got.Nums), len(got.Text), err)
	}
}

// bad looks that bytes are no reply.
func bad(t *testing.T, b []byte) {
	t.Helper()
	if r, err := Decode(b); err != api.ErrForm || r.Code != 0 || r.Nums != nil || r.Text != "" {
		t.Errorf("Decode %v: %v, %d", b[:min(len(b), 100)], r, err)
	}
}

// some are so many numbers, unlike one another.
func some(n int) []int {
	var all []int
	for i := range n {
		all = append(all, i*i*0x10001-i<<55)
	}
	return all
}

// P37.1: each number where it is to stand, the highest byte first; with the chapter's example.
func TestEncode(t *testing.T) {
	right(t, plain(), plainBytes())
	right(t, api.Reply{}, []byte{0, 0, 0, 0, 0})
	right(t, api.Reply{Nums: []int{}}, []byte{0, 0, 0, 0, 0})
	right(t, api.Reply{Code: 7}, []byte{7, 0, 0, 0, 0})
	right(t, api.Reply{Nums: []int{0}}, []byte{0, 0, 1, 0, 0, 0, 0, 0, 0, 0, 0, 0, 0})
	right(t, api.Reply{Text: "\x00"}, []byte{0, 0, 0, 0, 1, 0})
	for _, c := range []struct {
		n    int
		want []byte
	}{
		{1, []byte{0, 0, 0, 0, 0, 0, 0, 1}}, {-1, []byte{255, 255, 255, 255, 255, 255, 255, 255}}, {256, []byte{0, 0, 0, 0, 0, 0, 1, 0}}, {1 << 62, []byte{64, 0, 0, 0, 0, 0, 0, 0}},
		{math.MaxInt, []byte{127, 255, 255, 255, 255, 255, 255, 255}}, {math.MinInt, []byte{128, 0, 0, 0, 0, 0, 0, 0}},
	} {
		want := plainBytes()
		copy(want[11:], c.want)
		r := plain()
		r.Nums[1] = c.n
		right(t, r, want)
	}
	for _, text := range []string{"a", "\xff\xfe", "100 General\n200 Roads\n", "Ünïcøde", strings.Repeat("n", 255), strings.Repeat("\x00", 256)} {
		r := plain()
		r.Text = text
		right(t, r, slices.Concat(plainBytes()[:19], []byte{byte(len(text) >> 8), byte(len(text))}, []byte(text)))
	}
}

// P37.1: a code is held from 0 to 255.
func TestEncodeCode(t *testing.T) {
	for code := range 256 {
		want := plainBytes()
		want[0] = byte(code)
		r := plain()
		r.Code = api.Errno(code)
		right(t, r, want)
	}
	for _, c := range []struct{ code, as api.Errno }{
		{-1, 0}, {-15, 0}, {-256, 0}, {-255, 0}, {math.MinInt, 0}, {256, 255}, {257, 255}, {511, 255}, {512 + 15, 255}, {1 << 32, 255}, {math.MaxInt, 255},
	} {
		r, as := plain(), plain()
		r.Code, as.Code = c.code, c.as
		held(t, r, as)
	}
}

// P37.1: the first 65535 numbers, and the first 65535 bytes of the text.
func TestEncodeMany(t *testing.T) {
	for _, n := range []int{3, 255, 256, 257, mostThere - 1, mostThere, mostThere + 1, mostThere + 2, 2*mostThere + 2} {
		there := min(n, mostThere)
		r, as := plain(), plain()
		r.Nums, as.Nums = some(n), some(n)[:there]
		held(t, r, as)
		if b := Encode(r); len(b) != 10+8*there || b[1] != byte(there>>8) || b[2] != byte(there) || string(b[len(b)-7:]) != "\x00\x05Roads" {
			t.Errorf("%d numbers: %d bytes, with %d, %d", n, len(b), b[1], b[2])
		}
		r, as = plain(), plain()
		r.Text = strings.Repeat("0123456789a", n/11+1)[:n]
		as.Text = r.Text[:there]
		held(t, r, as)
		if b := Encode(r); len(b) != 21+there || b[19] != byte(there>>8) || b[20] != byte(there) {
			t.Errorf("%d bytes: %d bytes, with %d, %d", n, len(b), b[19], b[20])
		}
	}
	// Of both at once; and bytes are counted, not signs.
	held(t, api.Reply{Code: 300, Nums: some(70000), Text: strings.Repeat("ü", 40000)}, api.Reply{Code: 255, Nums: some(mostThere), Text: strings.Repeat("ü", 32767) + "\xc3"})
}

// P37.1: bytes that end too early, or too late.
func TestDecodeLength(t *testing.T) {
	bad(t, nil)
	bad(t, []byte{})
	for _, b := range [][]byte{plainBytes(), make([]byte, 5), Encode(api.Reply{Nums: some(300), Text: strings.Repeat("n", 300)})} {
		for n := range b {
			bad(t, b[:n])
			// What stands in the spare room is not told.
			bad(t, slices.Clip(b[:n]))
		}
		bad(t, append(slices.Clone(b), 0))
		bad(t, append(slices.Clone(b), b...))
		bad(t, append(slices.Clone(b), make([]byte, 8)...))
	}
	bad(t, append([]byte{0}, plainBytes()...))
	bad(t, make([]byte, 6))
	bad(t, make([]byte, 100000))
	bad(t, bytes.Repeat([]byte{255}, 4000))
	bad(t, bytes.Repeat([]byte{255}, 1000000))
	bad(t, Encode(api.Reply{Nums: some(mostThere), Text: strings.Repeat("n", mostThere)})[1:])
}

// P37.1: each byte changed to each other one: what is a reply still is another one, with just these bytes.
func TestDecodeBytes(t *testing.T) {
	for at := range plainBytes() {
		for n := range 256 {
			b := plainBytes()
			if b[at] == byte(n) {
				continue
			}
			b[at] = byte(n)
			// How many numbers, and bytes, there are: none of these agrees with what there is.
			if at == 1 || at == 2 || at == 19 || at == 20 {
				bad(t, b)
				continue
			}
			r, err := Decode(b)
			if err != api.OK || like(r, plain()) {
				t.Errorf("byte %d is %d: %v, %d", at, n, r, err)
			}
			right(t, r, b)
		}
	}
}

// P37.1: counts that do not agree with what there is.
func TestDecodeCounts(t *testing.T) {
	for nums := range 6 {
		for text := range 20 {
			b := slices.Concat([]byte{1, 0, byte(nums)}, make([]byte, 8*nums), []byte{0, byte(text)}, make([]byte, text))
			right(t, api.Reply{Code: 1, Nums: make([]int, nums), Text: strings.Repeat("\x00", text)}, b)
			for _, n := range []int{-1, 1, 0xff00} {
				if text+n >= 0 {
					b[3+8*nums], b[4+8*nums] = byte((text+n)>>8), byte(text+n)
					bad(t, b)
				}
			}
			b[3+8*nums], b[4+8*nums] = 0, byte(text)
			// So many that they would not stand in the text either.
			for _, n := range []int{6, 100, 0xff00} {
				b[1], b[2] = byte((nums+n)>>8), byte(nums+n)
				bad(t, b)
			}
		}
	}
	// A count alone.
	for n := range 256 {
		b := []byte{0, byte(n), 1}
		bad(t, b)
		bad(t, append([]byte{0, 0, 0}, byte(n), 1))
		bad(t, append(b, make([]byte, 8)...))
	}
	bad(t, []byte{0, 0, 0})
	bad(t, []byte{0, 0, 0, 0})
	bad(t, []byte{0, 255, 255, 0, 0})
	bad(t, []byte{0, 0, 0, 255, 255})
}

// P37.2: short replies whose code is 0 to 255 come back.
func TestComesBack(t *testing.T) {
	rand := uint64(1)
	next := func(n int) int {
		rand = rand*6364136223846793005 + 1442695040888963407
		return int(rand>>33) % n
	}
	for range 5000 {
		r := api.Reply{Code: api.Errno(next(256))}
		for range next(2) * next(70) {
			r.Nums = append(r.Nums, next(1<<31)<<next(33)*(next(3)-1))
		}
		for range next(2) * next(40) {
			r.Text += string([]byte{byte(next(256))})
		}
		b := Encode(r)
		right(t, r, b)
		if len(b) != 5+8*len(r.Nums)+len(r.Text) {
			t.Errorf("%v has %d bytes", r, len(b))
		}
		// What is no reply any more, or another one, is not it.
		b[next(len(b))] ^= byte(1 + next(255))
		got, err := Decode(b)
		if err != api.OK {
			bad(t, b)
		} else if like(got, r) || !bytes.Equal(Encode(got), b) {
			t.Errorf("Decode %v: %v", b, got)
		}
	}
}

// P37.1: field by field, whether bytes have room for it or not.
func TestSame(t *testing.T) {
	same := func(a, b api.Reply, want bool) {
		t.Helper()
		if Same(a, b) != want || Same(b, a) != want {
			t.Errorf("Same %v, %v is not %t", a, b, want)
		}
	}
	same(api.Reply{}, api.Reply{}, true)
	same(api.Reply{}, api.Reply{Nums: []int{}}, true)
	same(plain(), plain(), true)
	same(plain(), api.Reply{}, false)
	same(api.Reply{Code: 256}, api.Reply{Code: 255}, false)
	same(api.Reply{Code: 256}, api.Reply{Code: 256}, true)
	same(api.Reply{Code: -1}, api.Reply{}, false)
	for i, change := range []func(r *api.Reply){
		func(r *api.Reply) { r.Code = api.OK }, func(r *api.Reply) { r.Code++ }, func(r *api.Reply) { r.Code += 256 }, func(r *api.Reply) { r.Code = -r.Code },
		func(r *api.Reply) { r.Nums = nil }, func(r *api.Reply) { r.Nums = r.Nums[:1] }, func(r *api.Reply) { r.Nums = r.Nums[1:] }, func(r *api.Reply) { r.Nums = append(r.Nums, 0) },
		func(r *api.Reply) { r.Nums[0]++ }, func(r *api.Reply) { r.Nums[1] = -r.Nums[1] }, func(r *api.Reply) { slices.Reverse(r.Nums) },
		func(r *api.Reply) { r.Text = "" }, func(r *api.Reply) { r.Text = "roads" }, func(r *api.Reply) { r.Text += "\x00" }, func(r *api.Reply) { r.Text = r.Text[1:] },
	} {
		r, again := plain(), plain()
		change(&r)
		change(&again)
		same(plain(), r, false)
		if !Same(r, again) {
			t.Errorf("change %d is not the same as itself", i)
		}
	}
	// The last of more than have room.
	long, other := api.Reply{Nums: some(70000)}, api.Reply{Nums: some(70000)}
	other.Nums[69999]++
	if Same(long, other) || !bytes.Equal(Encode(long), Encode(other)) {
		t.Error("the last number doesn't count")
	}
	long, other = api.Reply{Text: strings.Repeat("n", 70000)}, api.Reply{Text: strings.Repeat("n", 69999)}
	if Same(long, other) || !bytes.Equal(Encode(long), Encode(other)) {
		t.Error("the last byte doesn't count")
	}
}

// P37.1: OK and Warned are done, whatever stands beside them; nothing else is.
func TestDone(t *testing.T) {
	for code := api.Errno(-300); code < 600; code++ {
		want := code == 0 || code == 15
		if Done(api.Reply{Code: code}) != want || Done(api.Reply{Code: code, Nums: []int{1}, Text: "x"}) != want {
			t.Errorf("Done of %d is not %t", code, want)
		}
	}
	for _, code := range []api.Errno{math.MinInt, math.MaxInt, 1 << 32, 1<<32 + 15, math.MinInt + 15} {
		if Done(api.Reply{Code: code}) {
			t.Errorf("Done of %d", code)
		}
	}
	if !Done(api.Reply{Code: api.OK}) || !Done(api.Reply{Code: api.Warned}) || Done(api.Reply{Code: api.ErrBad}) || Done(api.Reply{Code: api.ErrLong}) {
		t.Error("Done")
	}
}

// R3: what is handed in stays, its spare room too, and what is answered may be changed.
func TestNothingShared(t *testing.T) {
	b := append(plainBytes(), 1, 2, 3)
	r, err := Decode(b[:len(b)-3])
	if err != api.OK || !like(r, plain()) || !bytes.Equal(b, append(plainBytes(), 1, 2, 3)) {
		t.Fatalf("%v, %d, of %v", r, err, b)
	}
	clear(b)
	if !like(r, plain()) {
		t.Errorf("the reply is %v now", r)
	}
	room := append(plain().Nums, 5)
	r.Nums = room[:2]
	got := Encode(r)
	clear(got[:cap(got)])
	if again := Encode(r); !bytes.Equal(again, plainBytes()) || room[2] != 5 || !like(r, plain()) {
		t.Errorf("%v, of %v", again, r)
	}
	many := some(70000)
	Encode(api.Reply{Nums: many})
	if !slices.Equal(many, some(70000)) {
		t.Error("the numbers are others now")
	}
}
