package sum

import (
	"crypto/sha256"
	"sync"
	"testing"

	"twine/api"
)

// sumsOf tells the sums of b's pieces, by the standard's own hand.
func sumsOf(b []byte) [][32]byte {
	var l [][32]byte
	for len(b) > api.Piece {
		l = append(l, sha256.Sum256(b[:api.Piece]))
		b = b[api.Piece:]
	}
	if len(b) > 0 {
		l = append(l, sha256.Sum256(b))
	}
	return l
}

// joined tells the sum of sums, one behind the other.
func joined(sums [][32]byte) [32]byte {
	var b []byte
	for _, s := range sums {
		b = append(b, s[:]...)
	}
	return sha256.Sum256(b)
}

// pieceLengths: around a piece and its multiples, and where the sums of the pieces fill blocks.
func pieceLengths() []int {
	l := lengths()
	for k := range 10 {
		l = append(l, k*api.Piece+1, k*api.Piece+api.Piece/2, (k+1)*api.Piece-1, (k+1)*api.Piece)
	}
	return append(l, 100*api.Piece, 100*api.Piece+1)
}

func TestP2_3Examples(t *testing.T) {
	want(t, "Digest of nothing", Digest(nil), ofNothing)
	want(t, "Digest of an empty list", Digest([]byte{}), ofNothing)
	one := SHA([]byte("abc"))
	if Digest([]byte("abc")) != SHA(one[:]) {
		t.Error("Digest of abc is not SHA of its SHA")
	}
	want(t, "no pieces", NewPieces().Sum(), ofNothing)
}

func TestP2_3Lengths(t *testing.T) {
	for _, n := range pieceLengths() {
		if b := text(n); Digest(b) != joined(sumsOf(b)) {
			t.Errorf("%d bytes: %x, want %x", n, Digest(b), joined(sumsOf(b)))
		}
	}
}

// TestP2_3AnySums: pieces take what they are given, sums of something or not, the same one twice too.
func TestP2_3AnySums(t *testing.T) {
	var ff [32]byte
	for i := range ff {
		ff[i] = 0xFF
	}
	p := NewPieces()
	var all [][32]byte
	for _, s := range [][32]byte{{}, ff, {}, ff, ff, {31: 1}} {
		p.Add(s)
		all = append(all, s)
		if first, again := p.Sum(), p.Sum(); first != joined(all) || again != first {
			t.Errorf("%d pieces: %x, then %x, want %x", len(all), first, again, joined(all))
		}
	}
}

// TestP2_3Order: the pieces' order is a part of the sum.
func TestP2_3Order(t *testing.T) {
	x, y := SHA([]byte("x")), SHA([]byte("y"))
	p, q := NewPieces(), NewPieces()
	p.Add(x)
	q.Add(y) // the two are made beside one another
	p.Add(y)
	q.Add(x)
	if p.Sum() != joined([][32]byte{x, y}) || q.Sum() != joined([][32]byte{y, x}) {
		t.Error("two lots of pieces beside one another touch, or lose their order")
	}
	want(t, "a new lot, behind them", NewPieces().Sum(), ofNothing)
}

// TestP2_5Pieces: the sums of a file's pieces lead to its digest, at each piece of the way.
func TestP2_5Pieces(t *testing.T) {
	for _, n := range pieceLengths() {
		b := text(n)
		p := NewPieces()
		for at := 0; at < n; at += api.Piece {
			end := min(at+api.Piece, n)
			p.Add(SHA(b[at:end]))
			if p.Sum() != Digest(b[:end]) {
				t.Errorf("%d bytes of %d: the pieces' sum is not the digest", end, n)
			}
		}
		if p.Sum() != Digest(b) {
			t.Errorf("%d bytes: the pieces' sum is not the digest", n)
		}
	}
}

// TestP2_5AtOnce: several may reckon the sums of the pieces at the same time.
func TestP2_5AtOnce(t *testing.T) {
	b := text(40*api.Piece + 3)
	sums := make([][32]byte, 41)
	var all sync.WaitGroup
	for i := range sums {
		all.Go(func() { sums[i] = SHA(b[i*api.Piece : min((i+1)*api.Piece, len(b))]) })
	}
	all.Wait()
	p := NewPieces()
	for _, s := range sums {
		p.Add(s)
	}
	if p.Sum() != Digest(b) {
		t.Error("pieces that were reckoned at once lead to another digest")
	}
}
