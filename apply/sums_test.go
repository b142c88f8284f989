package apply

import (
	"bytes"
	"crypto/sha256"
	"math/rand"
	"testing"
)

// The sum is the standard's.
func TestP17_1OwnSum(t *testing.T) {
	r := rand.New(rand.NewSource(171))
	for n := range 700 {
		whole := make([]byte, n+100)
		r.Read(whole)
		b, before := whole[:n], bytes.Clone(whole)
		if sha(b) != sha256.Sum256(b) {
			t.Errorf("SHA-256 of %d bytes", n)
		}
		if !bytes.Equal(whole, before) {
			t.Errorf("%d bytes were changed, or the room behind them", n)
		}
	}
}
