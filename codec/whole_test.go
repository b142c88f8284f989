package codec

import (
	"bytes"
	"encoding/binary"
	"fmt"
	"hash/crc32"
	"math"
	"math/rand"
	"reflect"
	"slices"
	"testing"

	"twine/api"
	"twine/tree"
)

func TestP6_5UnknownModes(t *testing.T) {
	n := dir("", 7, dir("d", 0, link("l", 1)), file("f", 6, 1, 1, 2, 3, 4))
	for version := 1; version <= 3; version++ {
		x, _, err := Decode(mustEncode(t, n, version, 9), 9)
		if err != nil {
			t.Fatal(err)
		}
		modes, marks := map[string]int{"": 7, "d": 0, "d/l": 0, "f": 6}, n.Kids[1].Marks
		if version == 1 {
			modes = map[string]int{"": api.Unknown, "d": api.Unknown, "d/l": 0, "f": api.Unknown}
		}
		if version < 3 {
			marks = [2]api.Mark{}
		}
		for p, v := range x.All() {
			if v.Mode != modes[p] {
				t.Errorf("version %d, %q: mode %d", version, p, v.Mode)
			}
		}
		if f, _ := x.Sub("f"); f.Marks() != marks {
			t.Errorf("version %d: marks %v", version, f.Marks())
		}
	}
}

// thereAndBack holds P6.6 of a tree.
func thereAndBack(t *testing.T, what string, n api.Node, most int) {
	t.Helper()
	for version := 1; version <= 3; version++ {
		taken(t, fmt.Sprint(what, ", version ", version), mustEncode(t, n, version, most), most, projected(n, version), version)
	}
}

func TestP6_6ThereAndBack(t *testing.T) {
	for name, n := range samples() {
		thereAndBack(t, name, n, countOf(n))
		thereAndBack(t, name, n, math.MaxInt)
	}
	for i := range 300 {
		n := randomTree(rand.New(rand.NewSource(int64(i))), 30)
		thereAndBack(t, fmt.Sprint("random ", i), n, countOf(n))
	}
}

func TestP22_1ThereAndBack(t *testing.T) {
	for name, n := range samples() {
		x := of(t, n)
		for version := 1; version <= 3; version++ {
			for _, most := range []int{1, 2, countOf(n) - 1, countOf(n), api.MaxNodes} {
				b, e := Encode(x, version, most)
				if countOf(n) > max(most, 1) {
					if e != api.ErrCodecBounds || b != nil {
						t.Errorf("%s, version %d, most %d: %d", name, version, most, e)
					}
					continue
				}
				y, v, err := Decode(b, most)
				if e != api.OK || err != nil || v != version || !reflect.DeepEqual(y.Node(), of(t, projected(n, version)).Node()) {
					t.Errorf("%s, version %d, most %d: %d, %v", name, version, most, e, err)
				}
				if version == 3 && !reflect.DeepEqual(y.Node(), x.Node()) {
					t.Errorf("%s: version 3 drops something", name)
				}
			}
		}
	}
}

// randomTree: a tree of at most so many nodes.
func randomTree(r *rand.Rand, most int) api.Node {
	left := 1 + r.Intn(most)
	n := randomNode(r, 0, &left)
	n.Name = ""
	return n
}

func randomNode(r *rand.Rand, deep int, left *int) api.Node {
	*left--
	mark := func() (int, int) {
		if r.Intn(3) == 0 {
			return 0, 0
		}
		return 1 + r.Intn(1<<r.Intn(56)), 1 + r.Intn(1<<r.Intn(56))
	}
	if deep > 0 && r.Intn(2) == 0 {
		a, b := mark()
		c, d := mark()
		n := file("", r.Intn(9), r.Intn(1<<r.Intn(40)), a, b, c, d)
		r.Read(n.Value.Sum[:])
		return n
	}
	if deep > 0 && r.Intn(4) == 0 {
		n := link("", 1+r.Intn(api.MaxTarget))
		r.Read(n.Value.Sum[:])
		return n
	}
	n := dir("", r.Intn(9))
	names := map[string]int{}
	for *left > 0 && r.Intn(4) > 0 {
		b := make([]byte, 1+r.Intn(1+r.Intn(6)))
		for i := range b {
			b[i] = "ab.\xff\x01 z~"[r.Intn(8)]
		}
		if s := string(b); names[s] == 0 && s != "." && s != ".." {
			names[s]++
			kid := randomNode(r, deep+1, left)
			kid.Name = s
			n.Kids = append(n.Kids, kid)
		}
	}
	slices.SortFunc(n.Kids, func(a, b api.Node) int { return bytes.Compare([]byte(a.Name), []byte(b.Name)) })
	return n
}

// held holds Decode of some bytes against the plain one, and what it takes against Encode (P6.7). It tells whether they were taken.
func held(t *testing.T, b []byte, most int) bool {
	t.Helper()
	n, version, fault := plainDecode(b, most)
	if fault.Err != api.OK {
		refused(t, hexed(b), b, most, fault)
		return false
	}
	x, v, err := Decode(b, most)
	if err != nil || v != version || !reflect.DeepEqual(x.Node(), of(t, n).Node()) {
		t.Errorf("% X, most %d: version %d, %v, or another tree", b, most, v, err)
		return false
	}
	if again, e := Encode(x, v, most); e != api.OK || !bytes.Equal(again, b) {
		t.Errorf("% X, most %d: Encode answers %d, % X", b, most, e, again)
	}
	if x.Count() > min(max(most, 1), api.MaxNodes) || x.Depth() > api.MaxDepth {
		t.Errorf("% X, most %d: %d nodes, depth %d", b, most, x.Count(), x.Depth())
	}
	return true
}

// spoilt: a file that isn't quite the one of n: items are broken, dropped, doubled, exchanged; the sum is right, mostly.
func spoilt(r *rand.Rand, n api.Node, version int) []byte {
	l := itemsOf(projected(n, version), version)
	for range r.Intn(3) {
		i := r.Intn(len(l))
		switch r.Intn(7) {
		case 0:
			if all := breakings(l, i, r.Intn(4), countOf(n)); len(all) > 0 {
				l = with(l, i, all[r.Intn(len(all))].b)
			}
		case 1:
			l = slices.Delete(slices.Clone(l), i, i+1)
		case 2:
			l = slices.Insert(slices.Clone(l), i, l[r.Intn(len(l))])
		case 3:
			l = with(l, i, l[r.Intn(len(l))].b)
		case 4:
			l = l[:i]
		case 5:
			if len(l[i].b) > 0 {
				l = with(l, i, turned(l[i].b, r.Intn(len(l[i].b)), 1<<r.Intn(8)))
			}
		case 6:
			l = with(l, i, number(uint64(r.Intn(5))))
		}
		if len(l) == 0 {
			break
		}
	}
	b := append(head(version), joined(l)...)
	switch r.Intn(9) {
	case 0:
		b[4] = byte(r.Intn(5))
	case 1:
		return b
	case 2:
		b = b[:r.Intn(len(b))]
	case 3:
		b = append(b, byte(r.Intn(4)))
	}
	return sealed(b)
}

func TestP6_4AgainstThePlainOne(t *testing.T) {
	kept, all := 0, 8000
	for i := range all {
		r := rand.New(rand.NewSource(int64(i)))
		n := randomTree(r, 2+r.Intn(15))
		most := countOf(n) + r.Intn(4) - 1
		if held(t, spoilt(r, n, 1+r.Intn(3)), most) {
			kept++
		}
	}
	if kept < all/50 || kept > all/2 {
		t.Errorf("%d of %d were taken", kept, all)
	}
}

func TestP6_7OneForm(t *testing.T) {
	for name, n := range samples() {
		for version := 1; version <= 3; version++ {
			b := laid(version, itemsOf(projected(n, version), version))
			for _, most := range []int{countOf(n), countOf(n) + 1, math.MaxInt} {
				if !held(t, b, most) {
					t.Errorf("%s, version %d isn't taken", name, version)
				}
			}
		}
	}
}

// All short texts behind a mark and a version; all texts of few unlike bytes.
func TestP22_2ShortTexts(t *testing.T) {
	var go3 func(b []byte, deep int, letters string)
	go3 = func(b []byte, deep int, letters string) {
		held(t, b, 3)
		held(t, sealed(b), 3)
		for i := range len(letters) {
			if deep > 0 {
				go3(append(bytes.Clone(b), letters[i]), deep-1, letters)
			}
		}
	}
	go3(nil, 6, "twne\x01")
	for version := range 5 {
		go3(append([]byte("twne"), byte(version)), 5, "\x00\x01\x02\x03\x80")
	}
}

// Files with another byte at one place, and a right sum: they are refused, or have another form that Encode makes.
func TestP22_2OneByte(t *testing.T) {
	n := dir("", 7, dir("a", 5, file("x", 6, 200, 3, 4, 0, 0)), link("b", 3), dir("c", 1))
	other := 0
	for version := 1; version <= 3; version++ {
		l := itemsOf(projected(n, version), version)
		for i, x := range l {
			for at := range x.b {
				for bits := 1; bits < 256; bits++ {
					if len(x.b) == 32 && bits&(bits-1) > 0 {
						continue // of a digest or a hash one bit at a time will do
					}
					if held(t, laid(version, with(l, i, turned(x.b, at, byte(bits)))), 9) {
						other++
					}
				}
			}
		}
	}
	if other < 200 { // a mark's number and its stamp may be others
		t.Errorf("%d other files were taken", other)
	}
}

func TestP22_2Anything(t *testing.T) {
	r := rand.New(rand.NewSource(1))
	for i := range 3000 {
		b := make([]byte, r.Intn(60))
		r.Read(b)
		held(t, b, i)
		held(t, sealed(append(head(1+i%3), b...)), i)
	}
}

// damaged looks that each proper first part is refused, and what is left when bits are turned: each one, each two within 32, all of 32, and so many others; most is what took b.
func damaged(t *testing.T, b []byte, most, others int) {
	t.Helper()
	for n := range b {
		if x, _, err := Decode(b[:n:n], most); x != nil || err == nil {
			t.Errorf("the first %d bytes are taken", n)
		}
	}
	r := rand.New(rand.NewSource(2))
	bits := len(b) * 8
	try := func(begin int, pattern uint64) {
		bad := bytes.Clone(b)
		for i := range 32 {
			if pattern>>i&1 == 1 && begin+i < bits {
				bad[(begin+i)/8] ^= 1 << ((begin + i) % 8)
			}
		}
		if x, _, err := Decode(bad, most); x != nil || err == nil {
			t.Errorf("bits %X from %d on are turned, and it is taken", pattern, begin)
		}
	}
	for begin := range bits {
		try(begin, 1)
		try(begin, math.MaxUint32)
		for i := 1; i < 32; i++ {
			try(begin, 1|1<<i)
		}
		for range others {
			try(begin, 1|uint64(r.Uint32()))
		}
	}
}

func TestP6_8Damage(t *testing.T) {
	for version := 1; version <= 3; version++ {
		damaged(t, mustEncode(t, dir("", 7), version, 1), 1, 40)
		n := dir("", 7, file("a", 6, 300, 4, 200, 1, 1), dir("d", 5, link("x", 1)))
		damaged(t, mustEncode(t, n, version, 9), 9, 10)
	}
}

func TestP22_4Damage(t *testing.T) {
	for i := range 9 {
		n := randomTree(rand.New(rand.NewSource(int64(i))), 5)
		damaged(t, mustEncode(t, n, 1+i%3, 9), 9, 2)
	}
	for name, n := range samples() {
		b := mustEncode(t, n, 2, 999)
		for k := range b {
			if k%7 > 0 && len(b) > 3000 {
				continue
			}
			if x, _, err := Decode(b[:k], 999); x != nil || err == nil {
				t.Errorf("%s: the first %d bytes are taken", name, k)
			}
		}
	}
}

// A first part whose last four bytes are the right sum of the others: a file's stamp looks like that sum.
func TestP6_8FirstPartWithARightSum(t *testing.T) {
	found := 0
	for number := 1; number < 400; number++ {
		n := dir("", 7, file("f", 6, 1, number, 1<<55, 0, 0))
		l := itemsOf(n, 3)
		i := find(t, l, "stamp", "f")
		ahead := unsealed(laid(3, l[:i]))
		sum := binary.LittleEndian.AppendUint32(nil, crc32.ChecksumIEEE(ahead))
		if sum[0]&sum[1]&sum[2]&sum[3]&0x80 == 0 {
			continue // it can't be the beginning of a greater number
		}
		found++
		stamp, size := binary.Uvarint(append(bytes.Clone(sum), 1))
		if size != 5 {
			t.Fatal(size)
		}
		n.Kids[0].Marks[0].Stamp = int(stamp)
		b := mustEncode(t, n, 3, 9)
		taken(t, "all of it", b, 9, n, 3)
		first := b[:len(ahead)+4]
		if !bytes.Equal(first, sealed(ahead)) {
			t.Fatal("the first part hasn't the right sum")
		}
		refused(t, "the first part", first, 9, api.Fault{At: len(ahead), Err: form})
	}
	if found == 0 {
		t.Error("none was found")
	}
}

func TestP6_9GreaterAndLesserMost(t *testing.T) {
	for name, n := range samples() {
		count := countOf(n)
		for version := 1; version <= 3; version++ {
			b := laid(version, itemsOf(projected(n, version), version))
			for _, most := range []int{count, count + 1, 2 * count, api.MaxNodes - 1, api.MaxNodes, api.MaxNodes + 1, math.MaxInt} {
				taken(t, fmt.Sprint(name, ", most ", most), b, most, projected(n, version), version)
			}
			for _, most := range []int{count - 1, count / 2, 1, 0, -1, math.MinInt} {
				if max(most, 1) < count {
					refused(t, fmt.Sprint(name, ", most ", most), b, most, api.Fault{At: 5, Err: bounds})
				}
			}
		}
	}
}

// What is refused with one most isn't taken with another, unless it was the number of nodes.
func TestP6_9Refused(t *testing.T) {
	for i := range 1500 {
		r := rand.New(rand.NewSource(int64(i)))
		n := randomTree(r, 8)
		b := spoilt(r, n, 1+i%3)
		var first *tree.Tree
		for most := 1; most < 12; most++ {
			x, _, err := Decode(b, most)
			if f, ok := err.(*api.Fault); first != nil && err != nil {
				t.Errorf("% X: most %d refuses what a lesser one took: %v", b, most, err)
			} else if ok && x == nil && f.Err == bounds && f.At == 5 {
				continue
			}
			if first != nil && !reflect.DeepEqual(first.Node(), x.Node()) {
				t.Errorf("% X: most %d makes another tree", b, most)
			}
			first = x
		}
	}
}
