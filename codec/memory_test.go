package codec

import (
	"bytes"
	"reflect"
	"sync"
	"testing"

	"twine/api"
)

// roomy: a copy of bytes with room behind them, and all of it.
func roomy(b []byte) ([]byte, []byte) {
	whole := append(bytes.Clone(b), bytes.Repeat([]byte{0xA5}, 64)...)
	return whole[:len(b)], whole
}

// fill overwrites bytes, and the room behind them.
func fill(b []byte) {
	b = b[:cap(b)]
	for i := range b {
		b[i] = 0x5A
	}
}

func TestP6_1AnswerIsNewMemory(t *testing.T) {
	for version := 1; version <= 3; version++ {
		x := of(t, sample(dir("", 1)))
		before := x.Node()
		one, _ := Encode(x, version, 99)
		want := bytes.Clone(one)
		two, _ := Encode(x, version, 99)
		fill(two)
		if !bytes.Equal(one, want) {
			t.Errorf("version %d: an earlier answer has changed", version)
		}
		fill(one)
		if three, _ := Encode(x, version, 99); !bytes.Equal(three, want) {
			t.Errorf("version %d: a later answer has changed", version)
		}
		if !reflect.DeepEqual(x.Node(), before) {
			t.Errorf("version %d: the tree has changed", version)
		}
		for _, bad := range []int{0, 4} {
			Encode(x, bad, 99)
		}
		if !reflect.DeepEqual(x.Node(), before) {
			t.Errorf("version %d: the tree has changed", version)
		}
	}
}

func TestP6_3BytesAreNeitherChangedNorKept(t *testing.T) {
	n := sample(dir("", 1))
	for version := 1; version <= 3; version++ {
		good := mustEncode(t, n, version, 99)
		for what, b := range map[string][]byte{
			"good": good, "a wrong sum": turned(good, 9, 1), "cut": good[:20], "a mark": good[:3],
			"a wrong hash": sealed(turned(unsealed(good), 10, 1)), "form": sealed(turned(unsealed(good), 6, 8)),
		} {
			part, whole := roomy(b)
			before := bytes.Clone(whole)
			x, v, err := Decode(part, 99)
			if !bytes.Equal(whole, before) {
				t.Errorf("%s: the bytes were changed, or the room behind them", what)
			}
			if (err == nil) != (what == "good") {
				t.Errorf("%s: %v", what, err)
			}
			fill(whole)
			if err == nil && (v != version || !reflect.DeepEqual(x.Node(), of(t, projected(n, version)).Node())) {
				t.Errorf("%s: the tree changes with the bytes", what)
			}
		}
	}
}

// The room behind the bytes isn't read.
func TestP6_3RoomBehind(t *testing.T) {
	b := mustEncode(t, dir("", 7), 3, 9)
	for n := range b {
		if x, _, err := Decode(b[:n], 9); x != nil || err == nil {
			t.Errorf("%d bytes, with the others behind them, are taken", n)
		}
	}
}

func TestP6_3FaultsAreNewMemory(t *testing.T) {
	good := mustEncode(t, dir("", 7, dir("d", 1)), 3, 9)
	for what, b := range map[string][]byte{
		"mark": nil, "version": good[:4], "sum": good[:20], "form": sealed(turned(unsealed(good), 6, 8)),
		"hash": sealed(turned(unsealed(good), len(good)-5, 8)),
	} {
		_, _, one := Decode(b, 9)
		want := *one.(*api.Fault)
		*one.(*api.Fault) = api.Fault{At: 77, Path: "x", Err: 1}
		refused(t, what, b, 9, want)
	}
}

// Calls don't touch one another.
func TestP6_CallsAtOnce(t *testing.T) {
	n := sample(dir("", 1))
	x := of(t, n)
	var wg sync.WaitGroup
	for i := range 24 {
		wg.Go(func() {
			version := 1 + i%3
			want := laid(version, itemsOf(projected(n, version), version))
			for range 20 {
				b, e := Encode(x, version, 99)
				if e != api.OK || !bytes.Equal(b, want) {
					t.Errorf("version %d: %d", version, e)
				}
				taken(t, "at once", b, 99, projected(n, version), version)
			}
		})
	}
	wg.Wait()
}
