package sum

import (
	"bytes"
	"crypto/sha256"
	"encoding/hex"
	"math/big"
	"math/rand"
	"strings"
	"testing"

	"twine/api"
)

const (
	ofNothing = "E3B0C442 98FC1C14 9AFBF4C8 996FB924 27AE41E4 649B934C A495991B 7852B855"
	ofABC     = "BA7816BF 8F01CFEA 414140DE 5DAE2223 B00361A3 96177A9C B410FF61 F20015AD"
)

// want holds a sum against the document's writing of it.
func want(t *testing.T, what string, got [32]byte, words string) {
	t.Helper()
	if s := strings.ToUpper(hex.EncodeToString(got[:])); s != strings.ReplaceAll(words, " ", "") {
		t.Errorf("%s: %s, want %s", what, s, words)
	}
}

// text tells n bytes that look like chance, the same ones each time.
func text(n int) []byte {
	b := make([]byte, n)
	rand.New(rand.NewSource(int64(n) + 1)).Read(b)
	return b
}

// lengths: around the ends of blocks, around the last one with room for the number of bits, around pieces.
func lengths() []int {
	l := []int{0, 1, 2, 3, 31, 32, 33}
	for _, n := range []int{55, 56, 63, 64, 119, 120, 127, 128, 183, 184, 191, 192, api.Piece, 2 * api.Piece, 3 * api.Piece, 8 * api.Piece} {
		l = append(l, n-1, n, n+1)
	}
	return l
}

// cuts tells ways to cut n bytes: the lengths of the parts.
func cuts(n int) [][]int {
	l := [][]int{{n}, {0, n}, {n, 0}, {n / 2, 0, 0, n - n/2}}
	for _, step := range []int{1, 7, 55, 63, 64, 65, api.Piece} {
		var parts []int
		for left := n; left > 0; left -= step {
			parts = append(parts, min(step, left))
		}
		l = append(l, parts)
	}
	r := rand.New(rand.NewSource(int64(n)))
	for range 5 {
		var parts []int
		for left := n; left > 0; {
			k := min(r.Intn(150), left)
			parts = append(parts, k)
			left -= k
		}
		l = append(l, parts)
	}
	return l
}

// cut tells b's parts of these lengths.
func cut(b []byte, lens []int) [][]byte {
	var parts [][]byte
	for _, n := range lens {
		parts = append(parts, b[:n])
		b = b[n:]
	}
	return parts
}

// roomy tells b's bytes with room behind them that holds 0xEE, and all of that memory.
func roomy(b []byte) (list, whole []byte) {
	whole = append(bytes.Clone(b), bytes.Repeat([]byte{0xEE}, 200)...)
	return whole[:len(b)], whole
}

func TestP2_1Examples(t *testing.T) {
	want(t, "nothing", SHA(), ofNothing)
	want(t, "no bytes", SHA(nil), ofNothing)
	want(t, "an empty list", SHA([]byte{}), ofNothing)
	want(t, "parts without bytes", SHA(nil, []byte{}, nil), ofNothing)
	want(t, "abc", SHA([]byte("abc")), ofABC)
}

func TestP2_1Standard(t *testing.T) {
	for _, n := range lengths() {
		if b := text(n); SHA(b) != sha256.Sum256(b) {
			t.Errorf("%d bytes: %x, want %x", n, SHA(b), sha256.Sum256(b))
		}
	}
	for n := range 300 { // each way in which a block can be filled
		for _, c := range []byte{0, 0x80, 0xFF} {
			if b := bytes.Repeat([]byte{c}, n); SHA(b) != sha256.Sum256(b) {
				t.Errorf("%d times %#x: %x, want %x", n, c, SHA(b), sha256.Sum256(b))
			}
		}
	}
}

func TestP2_1ManyBits(t *testing.T) {
	b := bytes.Repeat([]byte("twine\n"), 1<<17)
	if SHA(b) != sha256.Sum256(b) {
		t.Errorf("%d bytes: %x, want %x", len(b), SHA(b), sha256.Sum256(b))
	}
}

// TestP2_1NumberOfBits: 2^29 bytes are 2^32 bits, more than the lower word of the number holds.
func TestP2_1NumberOfBits(t *testing.T) {
	if testing.Short() {
		t.Skip("it goes over 512 MiB")
	}
	h, std := New(), sha256.New()
	b := text(1 << 20)
	for range 1 << 9 {
		h.Add(b)
		std.Write(b)
	}
	h.Add([]byte("over"))
	std.Write([]byte("over"))
	if got := h.Sum(); !bytes.Equal(got[:], std.Sum(nil)) {
		t.Errorf("2^29 + 4 bytes: %x, want %x", got, std.Sum(nil))
	}
	if h.Len() != 1<<29+4 {
		t.Errorf("Len %d, want %d", h.Len(), 1<<29+4)
	}
}

// TestP2_1Words: the tables are what the document says that they are made of.
func TestP2_1Words(t *testing.T) {
	var primes []int64
	for n := int64(2); len(primes) < len(roundWords); n++ {
		if big.NewInt(n).ProbablyPrime(0) {
			primes = append(primes, n)
		}
	}
	for i, w := range firstWords {
		if got := rootWord(primes[i], 2); got != w {
			t.Errorf("the first words, %d: %08X, want %08X", i, w, got)
		}
	}
	for i, w := range roundWords {
		if got := rootWord(primes[i], 3); got != w {
			t.Errorf("the rounds' words, %d: %08X, want %08X", i, w, got)
		}
	}
}

// rootWord tells the first 32 bits of the fraction of the k-th root of n: the lower word of the root of n * 2^(32 k).
func rootWord(n int64, k uint) uint32 {
	whole := new(big.Int).Lsh(big.NewInt(n), 32*k)
	root := new(big.Int)
	for bit := 40; bit >= 0; bit-- {
		root.SetBit(root, bit, 1)
		if new(big.Int).Exp(root, big.NewInt(int64(k)), nil).Cmp(whole) > 0 {
			root.SetBit(root, bit, 0)
		}
	}
	return uint32(root.Uint64())
}

func TestP2_2Example(t *testing.T) {
	h := New()
	want(t, "new", h.Sum(), ofNothing)
	if h.Len() != 0 {
		t.Errorf("new: Len %d, want 0", h.Len())
	}
	h.Add([]byte("a"))
	h.Add([]byte("bc"))
	for _, what := range []string{"abc", "Sum again", "no bytes", "an empty list"} {
		switch what {
		case "no bytes":
			h.Add(nil)
		case "an empty list":
			h.Add([]byte{})
		}
		want(t, what, h.Sum(), ofABC)
		if h.Len() != 3 {
			t.Errorf("%s: Len %d, want 3", what, h.Len())
		}
	}
}

// TestP2_2GoneOn: at each length Sum is asked, twice, and the hash goes on behind it.
func TestP2_2GoneOn(t *testing.T) {
	b := text(3 * api.Piece)
	for _, step := range []int{1, 5, 55, 56, 64, 65, 130} {
		h := New()
		for at := 0; at < len(b); {
			next := min(at+step, len(b))
			h.Add(b[at:next])
			at = next
			if first, again := h.Sum(), h.Sum(); first != sha256.Sum256(b[:at]) || again != first {
				t.Fatalf("steps of %d, %d bytes: %x, then %x, want %x", step, at, first, again, sha256.Sum256(b[:at]))
			}
			if h.Len() != at {
				t.Fatalf("steps of %d: Len %d, want %d", step, h.Len(), at)
			}
		}
	}
}

// TestP2_2Beside: no two hashes touch one another, whatever the order of their calls.
func TestP2_2Beside(t *testing.T) {
	r := rand.New(rand.NewSource(22))
	var hashes [4]*Hash
	var added [4][]byte
	for i := range hashes {
		hashes[i] = New()
	}
	for range 2000 {
		i := r.Intn(len(hashes))
		b := text(r.Intn(100))
		hashes[i].Add(b)
		added[i] = append(added[i], b...)
		j := r.Intn(len(hashes))
		if hashes[j].Sum() != sha256.Sum256(added[j]) || hashes[j].Len() != len(added[j]) {
			t.Fatalf("hash %d of %d bytes is not theirs", j, len(added[j]))
		}
	}
	want(t, "a new one, behind them", New().Sum(), ofNothing)
}

// TestP2_2Kept: what was added stays so, whatever becomes of the list; the list, and the room behind it, stays as it is.
func TestP2_2Kept(t *testing.T) {
	for _, n := range lengths() {
		b := text(n)
		list, whole := roomy(b)
		before := bytes.Clone(whole)
		h := New()
		h.Add([]byte("ahead"))
		h.Add(list)
		h.Sum()
		if !bytes.Equal(whole, before) {
			t.Fatalf("%d bytes: the list or the room behind it has changed", n)
		}
		clear(whole)
		h.Add([]byte("behind"))
		if h.Sum() != sha256.Sum256(append(append([]byte("ahead"), b...), "behind"...)) {
			t.Errorf("%d bytes: the sum hangs on what became of the list", n)
		}
	}
}

// TestP2_2Answers: a sum that was answered is not touched by later calls, and touches none.
func TestP2_2Answers(t *testing.T) {
	h := New()
	h.Add([]byte("abc"))
	first := h.Sum()
	kept := first
	clear(first[:])
	want(t, "behind an answer that was cleared", h.Sum(), ofABC)
	h.Add([]byte("more"))
	h.Sum()
	want(t, "an earlier answer", kept, ofABC)
}

func TestP2_5SHACuts(t *testing.T) {
	for _, n := range lengths() {
		b := text(n)
		for _, lens := range cuts(n) {
			if SHA(cut(b, lens)...) != sha256.Sum256(b) {
				t.Errorf("%d bytes, cut into %v: another sum", n, lens)
			}
		}
	}
}

func TestP2_5AddCuts(t *testing.T) {
	for _, n := range lengths() {
		b := text(n)
		for _, lens := range cuts(n) {
			h := New()
			for _, part := range cut(b, lens) {
				h.Add(part)
			}
			if h.Sum() != sha256.Sum256(b) || h.Len() != n {
				t.Errorf("%d bytes, cut into %v: another sum, or Len %d", n, lens, h.Len())
			}
		}
	}
}

// TestP2_5OneMemory: parts that lie over one another are parts like others.
func TestP2_5OneMemory(t *testing.T) {
	b := text(200)
	if got := SHA(b[10:], b, b[:70]); got != sha256.Sum256(append(append(bytes.Clone(b[10:]), b...), b[:70]...)) {
		t.Errorf("parts of one memory: %x", got)
	}
}

// TestP2_5Room: SHA and its like leave the lists, and the room behind them, as they are.
func TestP2_5Room(t *testing.T) {
	for _, n := range lengths() {
		list, whole := roomy(text(n))
		before := bytes.Clone(whole)
		SHA(list, list[:n/2], list)
		Digest(list)
		CRC(list)
		if !bytes.Equal(whole, before) {
			t.Fatalf("%d bytes: the list or the room behind it has changed", n)
		}
		roomless := text(n)
		if SHA(list) != SHA(roomless) || Digest(list) != Digest(roomless) || CRC(list) != CRC(roomless) {
			t.Errorf("%d bytes: the answer hangs on the room behind the list", n)
		}
	}
}
