package recs

import (
	"bytes"
	"encoding/binary"
	"math"
	"reflect"
	"testing"

	"exchequer/api"
)

const top = 1<<32 - 1

// edges are numbers that may stand in values, keyEdges those that may stand in keys too.
var (
	edges    = []int{math.MinInt, -1 << 53, -1 << 32, -1, 0, 1, 2020, top, top + 1, 1 << 53, 1 << 62, math.MaxInt}
	keyEdges = []int{0, 1, 2, 255, 256, 65536, 1 << 31, top - 1, top}
)

// keyOf is a key, reworked by the library.
func keyOf(tag byte, nums ...uint32) []byte {
	key := []byte{tag}
	for _, n := range nums {
		key = binary.BigEndian.AppendUint32(key, n)
	}
	return key
}

// valueOf is a value, reworked by the library.
func valueOf(nums ...int) []byte {
	var value []byte
	for _, n := range nums {
		value = binary.BigEndian.AppendUint64(value, uint64(n))
	}
	return value
}

func pairIs(t *testing.T, what string, got api.Pair, key, value []byte) {
	t.Helper()
	if !bytes.Equal(got.Key, key) || !bytes.Equal(got.Value, value) {
		t.Errorf("%s: %v %v, not %v %v", what, got.Key, got.Value, key, value)
	}
}

// P19.1
func TestPairs(t *testing.T) {
	node := api.Node{Year: 2020, ID: 5, Parent: 6, Fund: 100, Object: 5010, Absolute: true, Limit: 70, Pre: 8, Enc: 9, Exp: 10, Lapsed: 11, Carried: 12}
	pairIs(t, "Node", Node(node), keyOf('N', 2020, 5), valueOf(6, 100, 5010, 1, 70, 8, 9, 10, 11, 12))
	node.Absolute, node.Limit = false, -70
	pairIs(t, "Node that is advisory", Node(node), keyOf('N', 2020, 5), valueOf(6, 100, 5010, 0, -70, 8, 9, 10, 11, 12))
	pairIs(t, "Doc", Doc(api.Doc{ID: 3, Kind: api.DocEnc, Year: 2021, From: 2, Lines: 4}), keyOf('D', 3), valueOf(2, 2021, 2, 4))
	pairIs(t, "DocLine", DocLine(3, 4, api.DocLine{Node: 5, Original: 60, Liquidated: 7, Cancelled: 8}), keyOf('L', 3, 4), valueOf(5, 60, 7, 8))
	pairIs(t, "Entry", Entry(api.Entry{ID: 9, Year: 2022, Kind: api.EntryClose, Lines: 10, Of: 11, By: 12}), keyOf('E', 9), valueOf(2022, 4, 10, 11, 12))
	pairIs(t, "Line", Line(13, 14, api.Line{Fund: 100, Object: 5010, Node: 77, Amount: -15}), keyOf('J', 13, 14), valueOf(100, 5010, -15))

	pairIs(t, "zero Node", Node(api.Node{}), keyOf('N', 0, 0), valueOf(0, 0, 0, 0, 0, 0, 0, 0, 0, 0))
	pairIs(t, "zero Doc", Doc(api.Doc{}), keyOf('D', 0), valueOf(0, 0, 0, 0))
	pairIs(t, "zero DocLine", DocLine(0, 0, api.DocLine{}), keyOf('L', 0, 0), valueOf(0, 0, 0, 0))
	pairIs(t, "zero Entry", Entry(api.Entry{}), keyOf('E', 0), valueOf(0, 0, 0, 0, 0))
	pairIs(t, "zero Line", Line(0, 0, api.Line{}), keyOf('J', 0, 0), valueOf(0, 0, 0))
}

// P19.1: numbers of keys are held as layer 18 says, those of values stand as they are.
func TestPairsHold(t *testing.T) {
	for _, c := range []struct {
		n    int
		want uint32
	}{{math.MinInt, 0}, {-1 << 32, 0}, {-1, 0}, {0, 0}, {top, top}, {top + 1, top}, {math.MaxInt, top}} {
		n := c.n
		pairIs(t, "Node", Node(api.Node{Year: n, ID: 7, Lapsed: n}), keyOf('N', c.want, 7), valueOf(0, 0, 0, 0, 0, 0, 0, 0, n, 0))
		pairIs(t, "Node", Node(api.Node{Year: 7, ID: n, Carried: n}), keyOf('N', 7, c.want), valueOf(0, 0, 0, 0, 0, 0, 0, 0, 0, n))
		pairIs(t, "Doc", Doc(api.Doc{ID: n, From: n}), keyOf('D', c.want), valueOf(0, 0, n, 0))
		pairIs(t, "DocLine", DocLine(n, 7, api.DocLine{Node: n}), keyOf('L', c.want, 7), valueOf(n, 0, 0, 0))
		pairIs(t, "DocLine", DocLine(7, n, api.DocLine{Original: n}), keyOf('L', 7, c.want), valueOf(0, n, 0, 0))
		pairIs(t, "Entry", Entry(api.Entry{ID: n, By: n}), keyOf('E', c.want), valueOf(0, 0, 0, 0, n))
		pairIs(t, "Line", Line(n, 7, api.Line{Fund: n}), keyOf('J', c.want, 7), valueOf(n, 0, 0))
		pairIs(t, "Line", Line(7, n, api.Line{Amount: n}), keyOf('J', 7, c.want), valueOf(0, 0, n))
	}
}

// P19.1
func TestOf(t *testing.T) {
	node, ok := NodeOf(api.Pair{Key: keyOf('N', 2020, 5), Value: valueOf(6, 100, 5010, 1, 70, 8, 9, 10, 11, 12)})
	if want := (api.Node{Year: 2020, ID: 5, Parent: 6, Fund: 100, Object: 5010, Absolute: true, Limit: 70, Pre: 8, Enc: 9, Exp: 10, Lapsed: 11, Carried: 12}); node != want || !ok {
		t.Errorf("NodeOf: %v, %v", node, ok)
	}
	doc, ok := DocOf(api.Pair{Key: keyOf('D', 3), Value: valueOf(2, 2021, 20, 4)})
	if want := (api.Doc{ID: 3, Kind: 2, Year: 2021, From: 20, Lines: 4}); doc != want || !ok {
		t.Errorf("DocOf: %v, %v", doc, ok)
	}
	docLine, ok := DocLineOf(api.Pair{Key: keyOf('L', 3, 4), Value: valueOf(5, 60, 7, 8)})
	if want := (api.DocLine{Node: 5, Original: 60, Liquidated: 7, Cancelled: 8}); docLine != want || !ok {
		t.Errorf("DocLineOf: %v, %v", docLine, ok)
	}
	entry, ok := EntryOf(api.Pair{Key: keyOf('E', 9), Value: valueOf(2022, 4, 10, 11, 12)})
	if want := (api.Entry{ID: 9, Year: 2022, Kind: 4, Lines: 10, Of: 11, By: 12}); entry != want || !ok {
		t.Errorf("EntryOf: %v, %v", entry, ok)
	}
	line, ok := LineOf(api.Pair{Key: keyOf('J', 13, 14), Value: valueOf(100, 5010, -15)})
	if want := (api.Line{Fund: 100, Object: 5010, Amount: -15}); line != want || !ok {
		t.Errorf("LineOf: %v, %v", line, ok)
	}
}

// P19.1: absolute is any number but 0.
func TestAbsolute(t *testing.T) {
	for _, n := range edges {
		node, ok := NodeOf(api.Pair{Key: keyOf('N', 1, 2), Value: valueOf(0, 0, 0, n, 0, 0, 0, 0, 0, 0)})
		if want := (api.Node{Year: 1, ID: 2, Absolute: n != 0}); node != want || !ok {
			t.Errorf("NodeOf with Absolute %d: %v, %v", n, node, ok)
		}
	}
}

// of is a call with Of, with what it answers told without its type.
type of struct {
	tag            byte
	inKey, inValue int
	call           func(p api.Pair) (zero, ok bool)
}

func ofs() []of {
	return []of{
		{'N', 2, 10, func(p api.Pair) (bool, bool) { x, ok := NodeOf(p); return x == api.Node{}, ok }},
		{'D', 1, 4, func(p api.Pair) (bool, bool) { x, ok := DocOf(p); return x == api.Doc{}, ok }},
		{'L', 2, 4, func(p api.Pair) (bool, bool) { x, ok := DocLineOf(p); return x == api.DocLine{}, ok }},
		{'E', 1, 5, func(p api.Pair) (bool, bool) { x, ok := EntryOf(p); return x == api.Entry{}, ok }},
		{'J', 2, 3, func(p api.Pair) (bool, bool) { x, ok := LineOf(p); return x == api.Line{}, ok }},
	}
}

// P19.1: all tags, and bytes of all lengths.
func TestOfWrong(t *testing.T) {
	ones := bytes.Repeat([]byte{1}, 200)
	for _, o := range ofs() {
		look := func(p api.Pair, want bool) {
			t.Helper()
			// What these bytes tell is zero nowhere.
			if zero, ok := o.call(p); ok != want || zero == ok {
				t.Errorf("%c of %d bytes with tag %v, %d bytes: %v, %v", o.tag, len(p.Key), p.Key[:min(1, len(p.Key))], len(p.Value), zero, ok)
			}
		}
		key := append([]byte{o.tag}, ones[:4*o.inKey]...)
		value := ones[:8*o.inValue]
		for tag := range 256 {
			look(api.Pair{Key: append([]byte{byte(tag)}, key[1:]...), Value: value}, byte(tag) == o.tag)
		}
		for size := range 60 {
			look(api.Pair{Key: append([]byte{o.tag}, ones[:size]...), Value: value}, size == 4*o.inKey)
		}
		for size := range len(ones) {
			look(api.Pair{Key: key, Value: ones[:size]}, size == 8*o.inValue)
		}
		look(api.Pair{Key: key}, false)
		look(api.Pair{Value: value}, false)
		look(api.Pair{Key: []byte{}, Value: []byte{}}, false)
		look(api.Pair{}, false)
	}
}

// P19.1: a pair of one kind is of no other.
func TestOfOthers(t *testing.T) {
	pairs := []api.Pair{Node(api.Node{ID: 1}), Doc(api.Doc{ID: 1}), DocLine(1, 1, api.DocLine{Node: 1}), Entry(api.Entry{ID: 1}), Line(1, 1, api.Line{Fund: 1})}
	for i, o := range ofs() {
		for j, p := range pairs {
			if zero, ok := o.call(p); ok != (i == j) || zero == ok {
				t.Errorf("%c of the pair %v: %v, %v", o.tag, p, zero, ok)
			}
		}
	}
}

// P19.2
func TestToldAgain(t *testing.T) {
	for i, a := range keyEdges {
		for j, b := range keyEdges {
			n := func(k int) int { return edges[(3*i+j+k)%len(edges)] }
			node := api.Node{Year: a, ID: b, Parent: n(0), Fund: n(1), Object: n(2), Absolute: (i+j)%2 == 0, Limit: n(3), Pre: n(4), Enc: n(5), Exp: n(6), Lapsed: n(7), Carried: n(8)}
			if got, ok := NodeOf(Node(node)); got != node || !ok {
				t.Errorf("NodeOf(Node(%v)): %v, %v", node, got, ok)
			}
			doc := api.Doc{ID: a, Kind: n(0), Year: n(1), From: n(2), Lines: n(3)}
			if got, ok := DocOf(Doc(doc)); got != doc || !ok {
				t.Errorf("DocOf(Doc(%v)): %v, %v", doc, got, ok)
			}
			docLine := api.DocLine{Node: n(0), Original: n(1), Liquidated: n(2), Cancelled: n(3)}
			if got, ok := DocLineOf(DocLine(a, b, docLine)); got != docLine || !ok {
				t.Errorf("DocLineOf(DocLine(%d, %d, %v)): %v, %v", a, b, docLine, got, ok)
			}
			entry := api.Entry{ID: a, Year: n(0), Kind: n(1), Lines: n(2), Of: n(3), By: n(4)}
			if got, ok := EntryOf(Entry(entry)); got != entry || !ok {
				t.Errorf("EntryOf(Entry(%v)): %v, %v", entry, got, ok)
			}
			line := api.Line{Fund: n(0), Object: n(1), Amount: n(2)}
			if got, ok := LineOf(Line(a, b, line)); got != line || !ok {
				t.Errorf("LineOf(Line(%d, %d, %v)): %v, %v", a, b, line, got, ok)
			}
		}
	}
	// A line's Node stands nowhere.
	if got, ok := LineOf(Line(1, 2, api.Line{Fund: 3, Object: 4, Node: 5, Amount: 6})); got != (api.Line{Fund: 3, Object: 4, Amount: 6}) || !ok {
		t.Errorf("LineOf of a line with a node: %v, %v", got, ok)
	}
}

// R3
func TestNothingShared(t *testing.T) {
	make := map[string]func() api.Pair{
		"Node":    func() api.Pair { return Node(api.Node{Year: 2020, ID: 1}) },
		"Doc":     func() api.Pair { return Doc(api.Doc{ID: 1}) },
		"DocLine": func() api.Pair { return DocLine(1, 2, api.DocLine{Node: 3}) },
		"Entry":   func() api.Pair { return Entry(api.Entry{ID: 1}) },
		"Line":    func() api.Pair { return Line(1, 2, api.Line{Fund: 3}) },
	}
	for what, f := range make {
		want, p := f(), f()
		for _, b := range [][]byte{p.Key[:cap(p.Key)], p.Value[:cap(p.Value)]} {
			for i := range b {
				b[i] = 'x'
			}
		}
		if got := f(); !reflect.DeepEqual(got, want) {
			t.Errorf("%s answers what was changed: %v", what, got)
		}
	}
	for _, o := range ofs() {
		p := api.Pair{Key: append([]byte{o.tag}, bytes.Repeat([]byte{1}, 4*o.inKey)...), Value: bytes.Repeat([]byte{2}, 8*o.inValue)}
		was := api.Pair{Key: bytes.Clone(p.Key), Value: bytes.Clone(p.Value)}
		if o.call(p); !reflect.DeepEqual(p, was) {
			t.Errorf("%c changed its pair: %v", o.tag, p)
		}
	}
}
