package codec

import (
	"bytes"
	"fmt"
	"math"
	"runtime"
	"slices"
	"strings"
	"testing"

	"twine/api"
)

const form, bounds = api.ErrCodecForm, api.ErrCodecBounds

func TestP6_Example2(t *testing.T) {
	mark := api.Fault{At: 0, Err: api.ErrCodecMark}
	version := api.Fault{At: 4, Err: api.ErrCodecVersion}
	refused(t, "nothing", nil, 9, mark)
	refused(t, "no bytes", []byte{}, 9, mark)
	refused(t, "three bytes", []byte{0x74, 0x77, 0x6E}, 9, mark)
	refused(t, "the mark alone", []byte{0x74, 0x77, 0x6E, 0x65}, 9, version)
	refused(t, "version 4", []byte{0x74, 0x77, 0x6E, 0x65, 4}, 9, version)
	refused(t, "version 4, and more", []byte{0x74, 0x77, 0x6E, 0x65, 4, 1, 1, 7, 0, 0, 0}, 9, version)
	refused(t, "three bytes of a sum", []byte{0x74, 0x77, 0x6E, 0x65, 1, 0, 0, 0}, 9, api.Fault{At: 5, Err: api.ErrCodecSum})
}

func TestP6_Example3(t *testing.T) {
	b := unsealed(mustEncode(t, dir("", 7), 3, 9))
	refused(t, "a hash", sealed(turned(b, 9, 1)), 9, api.Fault{At: 9, Err: api.ErrCodecHash})
	refused(t, "a root of kind 2", sealed(turned(b, 6, 3)), 9, api.Fault{At: 6, Err: form})
	refused(t, "two nodes", sealed(turned(b, 5, 3)), 9, api.Fault{At: 5, Err: form})
}

func TestP6_3Taken(t *testing.T) {
	for name, n := range samples() {
		for version := 1; version <= 3; version++ {
			n := projected(n, version)
			taken(t, fmt.Sprint(name, ", version ", version), laid(version, itemsOf(n, version)), api.MaxNodes, n, version)
		}
	}
}

func TestP6_3Mark(t *testing.T) {
	b := mustEncode(t, sample(link("", 1)), 3, 99)
	for at := range 4 {
		for bit := range 8 {
			other := turned(unsealed(b), at, 1<<bit)
			refused(t, "a wrong mark", sealed(other), 99, api.Fault{At: 0, Err: api.ErrCodecMark})
			for n := range 4 { // whatever else is wrong
				refused(t, "a wrong mark, and no more", other[:4+n], 99, api.Fault{At: 0, Err: api.ErrCodecMark})
			}
		}
	}
	for n := range 4 {
		refused(t, "shorter than a mark", b[:n], 99, api.Fault{At: 0, Err: api.ErrCodecMark})
	}
	refused(t, "a byte ahead of it", sealed(append([]byte{0}, unsealed(b)...)), 99, api.Fault{At: 0, Err: api.ErrCodecMark})
}

func TestP6_3Version(t *testing.T) {
	body := unsealed(mustEncode(t, dir("", 7), 3, 9))[5:]
	want := api.Fault{At: 4, Err: api.ErrCodecVersion}
	for _, version := range [][]byte{
		nil, {0}, {4}, {5}, {0x7F}, {0x80}, {0x83}, {0x81, 0}, {0x83, 0}, {0x83, 0x80, 0}, {0x80, 1}, {0x83, 1}, {0x80, 0x80},
		number(256 + 3), number(1<<32 + 1), number(1<<63 + 2), number(math.MaxUint64),
		append(bytes.Repeat([]byte{0xFF}, 9), 2), bytes.Repeat([]byte{0x83}, 20),
	} {
		b := append([]byte("twne"), version...)
		refused(t, fmt.Sprintf("version % X alone", version), b, 9, want)
		if len(version) > 0 {
			refused(t, fmt.Sprintf("version % X", version), sealed(append(b, body...)), 9, want)
		}
		refused(t, fmt.Sprintf("version % X, no sum", version), append(b, 0x80), 9, want)
	}
}

func TestP6_3Sum(t *testing.T) {
	b := mustEncode(t, sample(link("", 1)), 2, 99)
	for version := 1; version <= 3; version++ {
		for n := range 4 {
			refused(t, "shorter than a sum", append(head(version), make([]byte, n)...), 9, api.Fault{At: 5, Err: api.ErrCodecSum})
		}
		refused(t, "four bytes, a wrong sum", append(head(version), 0, 0, 0, 0), 9, api.Fault{At: 5, Err: api.ErrCodecSum})
		refused(t, "four bytes, the right sum", sealed(head(version)), 9, api.Fault{At: 5, Err: form})
	}
	end := len(b) - 4
	for at := 5; at < len(b); at++ {
		refused(t, "a bit is turned", turned(b, at, 1<<(at%8)), 99, api.Fault{At: end, Err: api.ErrCodecSum})
	}
	other := bytes.Clone(b)
	slices.Reverse(other[end:])
	refused(t, "the highest byte first", other, 99, api.Fault{At: end, Err: api.ErrCodecSum})
	refused(t, "a byte behind the sum", append(bytes.Clone(b), 0), 99, api.Fault{At: end + 1, Err: api.ErrCodecSum})
}

// broken: an item's bytes that aren't right, and by what they are refused; the fault stands at the item.
type broken struct {
	why string
	b   []byte
	err api.Errno
}

// longer: numbers that aren't in their one form.
func longer(n []byte) []broken {
	more := bytes.Clone(n)
	more[len(more)-1] |= 0x80
	return []broken{
		{"a longer form", append(bytes.Clone(more), 0), form},
		{"a still longer form", append(bytes.Clone(more), 0x80, 0), form},
		{"ten bytes, the last 2", append(bytes.Repeat([]byte{0xFF}, 9), 2), form},
		{"eleven bytes", append(bytes.Repeat([]byte{0x80}, 10), 1), form},
	}
}

func tooGreat(most int, e api.Errno) []broken {
	return []broken{
		{"one too many", number(uint64(most) + 1), e},
		{"twice", number(uint64(most)*2 + 2), e},
		{"2^32 more", number(uint64(most) + 1<<32 + 1), e},
		{"2^63", number(1 << 63), e},
		{"the greatest number", number(math.MaxUint64), e},
	}
}

// badNames: names that may not be, behind the name before (if there is one).
func badNames(before string, first bool) []broken {
	l := []broken{
		{"256 bytes", text(strings.Repeat("\xff", 256)), bounds},
		{"a length of 256", number(256), bounds},
		{"a length of 2^32", number(1 << 32), bounds},
		{"the greatest length", number(math.MaxUint64), bounds},
	}
	for _, s := range []string{"", ".", "..", "/", "\xff/", "\xff/\xff", "\x00", "\xff\x00", "\xff\x00\xff"} {
		l = append(l, broken{fmt.Sprintf("%q", s), text(s), form})
	}
	if !first {
		l = append(l, broken{"the same name", text(before), form})
		if len(before) > 1 {
			l = append(l, broken{"a first part of the name", text(before[:len(before)-1]), form})
		}
		l = append(l, broken{"a lower name", text("!"), form})
	}
	return l
}

// breakings: how the item at i can be broken; left: how many nodes are to come behind its node, by the number of nodes; most: how many may be.
func breakings(l []item, i, left, most int) []broken {
	x := l[i]
	switch x.what {
	case "nodes":
		return slices.Concat(longer(x.b), tooGreat(most, bounds), []broken{{"none", number(0), form}})
	case "kind":
		out := []broken{{"kind 0", []byte{0}, form}, {"kind 4", []byte{4}, form}, {"kind 255", []byte{255}, form}, {"kind 129", []byte{129}, form}}
		if x.path == "" {
			out = append(out, broken{"a file", []byte{2}, form}, broken{"a link", []byte{3}, form})
		}
		return out
	case "name":
		before, first := nameAhead(l, i)
		size := number(uint64(len(x.b) - 1))
		return slices.Concat(longer(size), badNames(before, first))
	case "size":
		if x.kind == api.Link {
			return slices.Concat(longer(x.b), tooGreat(api.MaxTarget, form), []broken{{"an empty link", number(0), form}})
		}
		return slices.Concat(longer(x.b), tooGreat(api.MaxSize, form))
	case "mode":
		return []broken{{"mode 9", []byte{9}, form}, {"mode 255", []byte{255}, form}, {"mode 128", []byte{128}, form}}
	case "number":
		return slices.Concat(longer(x.b), tooGreat(api.MaxStamp, form))
	case "stamp":
		out := slices.Concat(longer(x.b), tooGreat(api.MaxStamp, form))
		if i > 0 && bytes.Equal(l[i-1].b, []byte{0}) {
			return append(out, broken{"a stamp without a number", number(1), form}, broken{"a great one without a number", number(api.MaxStamp), form})
		}
		return append(out, broken{"a number without a stamp", number(0), form})
	case "children":
		return slices.Concat(longer(x.b), tooGreat(left, form))
	}
	return nil // a digest, a hash: any bytes may stand there
}

// nameAhead: the name of the node ahead in the same directory, and whether there is none.
func nameAhead(l []item, i int) (string, bool) {
	up := l[i].path[:strings.LastIndexByte(l[i].path, '/')+1]
	for j := i - 1; j >= 0; j-- {
		rest, in := strings.CutPrefix(l[j].path, up)
		if l[j].what == "name" && in && rest != "" && !strings.Contains(rest, "/") {
			return rest, false
		}
		if l[j].path+"/" == up {
			break
		}
	}
	return "", true
}

// each goes through all items of the samples in all versions, with how many nodes are to come behind the item's node.
func each(do func(what string, n api.Node, version int, l []item, i, left int)) {
	all := samples()
	delete(all, "many children") // its items are all alike
	for name, n := range all {
		for version := 1; version <= 3; version++ {
			kept := projected(n, version)
			l := itemsOf(kept, version)
			left := countOf(kept)
			for i, x := range l {
				if x.what == "kind" {
					left--
				}
				do(fmt.Sprintf("%s, version %d, %s of %.9q", name, version, x.what, x.path), kept, version, l, i, left)
			}
		}
	}
}

// Each item, broken by itself; behind it all that was there, or nothing.
func TestP6_4EachItem(t *testing.T) {
	many := 0
	each(func(what string, n api.Node, version int, l []item, i, left int) {
		most := countOf(n)
		for _, x := range breakings(l, i, left, most) {
			many++
			want := api.Fault{At: placeOf(l, i), Err: x.err}
			refused(t, what+": "+x.why, laid(version, with(l, i, x.b)), most, want)
			refused(t, what+": "+x.why+", and nothing behind", laid(version, with(l[:i+1], i, x.b)), most, want)
		}
	})
	if many < 5000 {
		t.Errorf("%d breakings alone", many)
	}
}

// The bytes end ahead of an item's end: at its first byte, and within.
func TestP6_4Short(t *testing.T) {
	each(func(what string, n api.Node, version int, l []item, i, left int) {
		b := l[i].b
		for k := range b {
			if len(b) > 40 && k > 3 && k < len(b)-3 {
				continue
			}
			refused(t, fmt.Sprintf("%s, %d bytes of %d", what, k, len(b)), laid(version, with(l[:i+1], i, b[:k])), api.MaxNodes, api.Fault{At: placeOf(l, i), Err: form})
		}
	})
}

// A number that lacks its end is short, whatever it would come to.
func TestP6_4ShortNumber(t *testing.T) {
	each(func(what string, n api.Node, version int, l []item, i, left int) {
		switch l[i].what {
		case "nodes", "name", "size", "number", "stamp", "children":
			for _, b := range [][]byte{{0x80}, {0xFF, 0xFF}, bytes.Repeat([]byte{0xFF}, 9)} {
				refused(t, what, laid(version, with(l[:i+1], i, b)), api.MaxNodes, api.Fault{At: placeOf(l, i), Err: form})
			}
		}
	})
}

// Values that may just stand there: the greatest and the least of each item that no hash covers, or that a right hash covers.
func TestP6_4AtTheEdge(t *testing.T) {
	for mode := range api.Unknown + 1 {
		n := dir("", mode, dir("d", mode), file("f", mode, 0))
		for version := 2; version <= 3; version++ {
			taken(t, fmt.Sprint("mode ", mode), laid(version, itemsOf(n, version)), 9, n, version)
		}
	}
	for _, n := range []api.Node{
		file("f", 1, 0), file("f", 1, api.MaxSize), link("f", 1), link("f", api.MaxTarget),
		file("f", 1, 1, 1, 1, api.MaxStamp, api.MaxStamp), file("f", 1, 1, 0, 0, 1, api.MaxStamp), file("f", 1, 1, api.MaxStamp, 1, 0, 0),
		file(strings.Repeat("\xff", api.MaxName), 1, 1), file("\x01", 1, 1), file("...", 1, 1), file(".a", 1, 1), file(" ", 1, 1), file("\xC3(", 1, 1),
	} {
		n := dir("", 7, n)
		taken(t, fmt.Sprintf("%q", n.Kids[0].Name), laid(3, itemsOf(n, 3)), 2, n, 3)
	}
}

// A mark's number that is put in or taken out is told at the stamp.
func TestP6_4NumberAndStamp(t *testing.T) {
	n := dir("", 7, file("f", 1, 1, 3, 4, 5, 6), file("g", 1, 1), file("h", 1, 1, 3, 4, 0, 0))
	l := itemsOf(n, 3)
	seen := 0
	for i, x := range l {
		if x.what != "number" {
			continue
		}
		seen++
		other := number(0)
		if bytes.Equal(x.b, other) {
			other = number(9)
		}
		refused(t, "the number of "+x.path, laid(3, with(l, i, other)), 9, api.Fault{At: placeOf(l, i+1), Err: form})
	}
	if seen != 6 {
		t.Errorf("%d numbers", seen)
	}
}

// Names rise in their directory, and in that alone.
func TestP6_4Rising(t *testing.T) {
	n := dir("", 7, dir("b", 7, file("c", 1, 1), file("d", 1, 1)), dir("c", 7, file("a", 1, 1)), link("d", 1))
	taken(t, "a first name below others", laid(3, itemsOf(n, 3)), 9, n, 3)
	for _, c := range [][2]string{{"c", "b"}, {"c", "a"}, {"c", "B"}, {"d", "c"}, {"d", "b"}, {"b/d", "c"}, {"b/d", "a"}} {
		l := itemsOf(n, 3)
		i := find(t, l, "name", c[0])
		refused(t, c[0]+" as "+c[1], laid(3, with(l, i, text(c[1]))), 9, api.Fault{At: placeOf(l, i), Err: form})
	}
	// Byte by byte, not as runes or by length.
	for _, names := range [][]string{{"a", "a\x01"}, {"Z", "a"}, {"aa", "b"}, {"\x7f", "\x80"}, {"\xef\xbf\xbf", "\xf0\x90\x80\x80"}, {"\xed\xa0\x80", "\xff"}} {
		n := dir("", 7, link(names[0], 1), link(names[1], 1))
		taken(t, fmt.Sprintf("%q", names), laid(3, itemsOf(n, 3)), 9, n, 3)
		slices.Reverse(n.Kids)
		l := itemsOf(n, 3)
		i := find(t, l, "name", names[0])
		refused(t, fmt.Sprintf("%q, turned round", names), laid(3, l), 9, api.Fault{At: placeOf(l, i), Err: form})
	}
}

// More children than nodes are left; fewer nodes than were told; more.
func TestP6_4HowManyNodes(t *testing.T) {
	n := dir("", 7, dir("a", 7, link("x", 1)), dir("b", 7), link("c", 1)) // five
	for version := 1; version <= 3; version++ {
		n := projected(n, version)
		l := itemsOf(n, version)
		at := func(what, p string) int { return placeOf(l, find(t, l, what, p)) }
		nodes := func(told uint64) []item { return with(l, 0, number(told)) }
		for _, c := range []struct {
			told uint64
			want api.Fault
		}{
			{1, api.Fault{At: at("children", ""), Err: form}},
			{2, api.Fault{At: at("children", ""), Err: form}},
			{3, api.Fault{At: at("children", ""), Err: form}},
			{4, api.Fault{At: at("kind", "c"), Err: form}},
			{6, api.Fault{At: 5, Err: form}},
			{99, api.Fault{At: 5, Err: form}},
			{100, api.Fault{At: 5, Err: bounds}},
		} {
			refused(t, fmt.Sprintf("version %d, %d nodes told", version, c.told), laid(version, nodes(c.told)), 99, c.want)
		}
		// As many nodes as were told: that comes ahead of the kind, and of the end of the bytes.
		i := find(t, l, "kind", "c")
		few := nodes(4)
		refused(t, "no kind, and too many nodes", laid(version, with(few, i, []byte{9})), 99, api.Fault{At: at("kind", "c"), Err: form})
		refused(t, "no byte, and too many nodes", laid(version, few[:i]), 99, api.Fault{At: at("kind", "c"), Err: form})
		// A directory that tells fewer children has bytes behind its last one.
		i = find(t, l, "children", "")
		refused(t, "a child less", laid(version, with(l, i, number(2))), 99, api.Fault{At: at("kind", "c"), Err: form})
		refused(t, "no child", laid(version, with(l, i, number(0))), 99, api.Fault{At: at("kind", "a"), Err: form})
		// One more: its first byte is missing, or it is taken for a node that belongs elsewhere.
		six := with(nodes(6), i, number(4))
		refused(t, "a child more", laid(version, six), 99, api.Fault{At: placeOf(l, len(l)), Err: form})
		j := find(t, l, "children", "b")
		refused(t, "a child more in b", laid(version, with(nodes(6), j, number(1))), 99, api.Fault{At: placeOf(l, len(l)), Err: form})
	}
}

// Bytes behind the last node, be they a node or not, come ahead of too few nodes.
func TestP6_4BytesLeft(t *testing.T) {
	for name, n := range samples() {
		for version := 1; version <= 3; version++ {
			l := itemsOf(projected(n, version), version)
			for _, rest := range [][]byte{{0}, {3}, {0xFF, 0xFF, 0xFF}, joined(nodeItems(link("\xff\xff\xff", 1), "\xff\xff\xff", version)), joined(l[1:])} {
				more := append(slices.Clone(l), item{b: rest})
				want := api.Fault{At: placeOf(l, len(l)), Err: form}
				refused(t, name+", bytes left", laid(version, more), api.MaxNodes, want)
				more[0].b = number(uint64(countOf(n) + 1))
				want.At = 5 + len(more[0].b) + len(joined(l[1:]))
				refused(t, name+", bytes left, and too few nodes", laid(version, more), api.MaxNodes, want)
			}
		}
	}
}

func TestP6_4Deep(t *testing.T) {
	for version := 1; version <= 3; version++ {
		for _, n := range []api.Node{file("", 1, 1), dir("", 1), link("", 1)} {
			just, over := projected(chain(n, api.MaxDepth), version), projected(chain(n, api.MaxDepth+1), version)
			taken(t, "64 names", laid(version, itemsOf(just, version)), api.MaxNodes, just, version)

			l := itemsOf(over, version)
			i := find(t, l, "kind", strings.Repeat("z/", api.MaxDepth)+"z")
			want := api.Fault{At: placeOf(l, i), Err: bounds}
			refused(t, "65 names", laid(version, l), api.MaxNodes, want)
			refused(t, "65 names, no byte", laid(version, l[:i]), api.MaxNodes, want)
			for _, kind := range []byte{0, 4, 255} {
				refused(t, "65 names, no kind", laid(version, with(l, i, []byte{kind})), api.MaxNodes, want)
			}
			for k := range 32 { // what is ahead of the kind comes first
				refused(t, "65 names, a short hash ahead", laid(version, with(l[:i], i-1, l[i-1].b[:k])), api.MaxNodes, api.Fault{At: placeOf(l, i-1), Err: form})
			}
			refused(t, "65 names, no node left", laid(version, with(l, 0, number(65))), api.MaxNodes, api.Fault{At: placeOf(l, i-2), Err: form})
		}
		// What goes down again may go on.
		n := projected(dir("", 7, chain(dir("", 7), api.MaxDepth-1), link("zz", 1)), version)
		n.Kids[0].Name = "z"
		taken(t, "64 names, and more behind", laid(version, itemsOf(n, version)), api.MaxNodes, n, version)
		m := projected(dir("", 7, chain(dir("", 7), api.MaxDepth+9), link("zz", 1)), version)
		m.Kids[0].Name = "z"
		l := itemsOf(m, version)
		i := find(t, l, "kind", strings.Repeat("z/", api.MaxDepth)+"z")
		refused(t, "74 names", laid(version, l), api.MaxNodes, api.Fault{At: placeOf(l, i), Err: bounds})
	}
}

// A great number of children makes no room for them: the bytes end there.
func TestP6_4NumbersThatLie(t *testing.T) {
	n := chain(dir("", 7), api.MaxDepth)
	l := with(itemsOf(n, 3), 0, number(api.MaxNodes))
	for i := range l {
		if l[i].what == "children" {
			l[i].b = number(api.MaxNodes - 1 - uint64(strings.Count(l[i].path, "z")))
		}
	}
	at := placeOf(l, len(l))
	b := laid(3, l)
	var before, behind runtime.MemStats
	runtime.ReadMemStats(&before)
	refused(t, "no child is there", b, math.MaxInt, api.Fault{At: at, Err: bounds})
	runtime.ReadMemStats(&behind)
	if cost := behind.TotalAlloc - before.TotalAlloc; cost > 1<<20 {
		t.Errorf("%d bytes of memory for a file of %d", cost, len(b))
	}
}

// The number of nodes against most.
func TestP6_4Most(t *testing.T) {
	for _, c := range []struct {
		told uint64
		most int
		err  api.Errno
	}{
		{2, 1, bounds}, {2, 0, bounds}, {2, -1, bounds}, {2, math.MinInt, bounds}, {2, 2, form}, {1 << 40, 9, bounds},
		{api.MaxNodes, api.MaxNodes, form}, {api.MaxNodes, api.MaxNodes + 1, form}, {api.MaxNodes, api.MaxNodes - 1, bounds},
		{api.MaxNodes + 1, api.MaxNodes, bounds}, {api.MaxNodes + 1, api.MaxNodes + 1, bounds}, {api.MaxNodes + 1, math.MaxInt, bounds},
		{math.MaxUint64, math.MaxInt, bounds}, {1 << 63, -1, bounds}, {0, 0, form}, {0, 9, form},
	} {
		l := itemsOf(dir("", 7), 3)
		refused(t, fmt.Sprintf("%d told, most %d", c.told, c.most), laid(3, with(l, 0, number(c.told))), c.most, api.Fault{At: 5, Err: c.err})
	}
	for _, most := range []int{1, 0, -1, math.MinInt, 2, api.MaxNodes, api.MaxNodes + 1, math.MaxInt} {
		taken(t, fmt.Sprint("the root alone, most ", most), mustEncode(t, dir("", 7), 3, 1), most, dir("", 7), 3)
	}
}

// Of two items that aren't right the one more to the left is told, whatever the other one's error is.
func TestP6_3FirstItem(t *testing.T) {
	n := sample(file("", 4, 77, 9, 10, 11, 12))
	l := itemsOf(n, 3)
	most := countOf(n)
	left := most
	for i, x := range l {
		if x.what == "kind" {
			left--
		}
		one := breakings(l, i, left, most)
		for k, x := range one {
			for j := i + 1; j < len(l); j++ {
				if j > i+3 && (j+k)%7 > 0 {
					continue
				}
				b := with(l, i, x.b)
				switch two := breakings(l, j, 99, most); {
				case len(two) > 0:
					b = with(b, j, two[(i+k)%len(two)].b)
				default:
					b = b[:j]
				}
				refused(t, fmt.Sprintf("%s of %.9q: %s, and %s of %.9q", l[i].what, l[i].path, x.why, l[j].what, l[j].path), laid(3, b), most, api.Fault{At: placeOf(l, i), Err: x.err})
			}
		}
	}
}

// The order of the faults that stand in the list of P6.3: what is wrong further down in it isn't told.
func TestP6_3Order(t *testing.T) {
	n := sample(link("", 1))
	l := itemsOf(n, 3)
	hash := find(t, l, "hash", "a")
	mode := find(t, l, "mode", "a/c/y")
	bad := with(l, hash, make([]byte, 32))
	refused(t, "a hash", laid(3, bad), 99, api.Fault{At: placeOf(l, hash), Path: "a", Err: api.ErrCodecHash})
	bad = with(bad, mode, []byte{9})
	refused(t, "a mode behind it", laid(3, bad), 99, api.Fault{At: placeOf(l, mode), Err: form})
	refused(t, "a byte left", laid(3, append(with(l, hash, make([]byte, 32)), item{b: []byte{0}})), 99, api.Fault{At: placeOf(l, len(l)), Err: form})
	refused(t, "too few nodes", laid(3, with(with(l, hash, make([]byte, 32)), 0, number(uint64(countOf(n)+1)))), 99, api.Fault{At: 5, Err: form})
	refused(t, "too many nodes", laid(3, bad), 11, api.Fault{At: 5, Err: bounds})
	b := laid(3, bad)
	b = turned(b, len(b)-1, 1)
	sum := api.Fault{At: len(b) - 4, Err: api.ErrCodecSum}
	refused(t, "a sum", b, 99, sum)
	refused(t, "a sum, too many nodes", b, 11, sum)
	b[4] = 4
	refused(t, "a version", b, 11, api.Fault{At: 4, Err: api.ErrCodecVersion})
	b[3] = 4
	refused(t, "a mark", b, 11, api.Fault{At: 0, Err: api.ErrCodecMark})
}
