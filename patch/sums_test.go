package patch

import (
	"bytes"
	"crypto/sha256"
	"encoding/binary"
	"hash/crc32"
	"math/rand"
	"testing"
)

// The two sums are the standards'.
func TestP8_3OwnSums(t *testing.T) {
	r := rand.New(rand.NewSource(83))
	for n := range 400 {
		whole := make([]byte, n+100)
		r.Read(whole)
		b, before := whole[:n], bytes.Clone(whole)
		if sha(b) != sha256.Sum256(b) {
			t.Errorf("SHA-256 of %d bytes", n)
		}
		if !bytes.Equal(whole, before) {
			t.Errorf("%d bytes were changed, or the room behind them", n)
		}
		if want := binary.LittleEndian.AppendUint32(bytes.Clone(b), crc32.ChecksumIEEE(b)); !bytes.Equal(putCheck(b), want) {
			t.Errorf("CRC-32 of %d bytes", n)
		}
	}
}
