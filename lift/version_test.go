package lift

import (
	"bytes"
	"testing"
)

func versionIs(t *testing.T, b []byte, want int) {
	t.Helper()
	if v, ok := Version(b); v != want || ok != (want > 0) {
		t.Errorf("% X: %d, %v, want %d", b, v, ok, want)
	}
}

func TestP7_2Files(t *testing.T) {
	for _, n := range archives() {
		for version := 1; version <= 3; version++ {
			versionIs(t, fileOf(t, n, version), version)
		}
	}
}

func TestP7_2Nothing(t *testing.T) {
	versionIs(t, nil, 0)
	versionIs(t, []byte{}, 0)
}

// Each first part of a file: the first five bytes tell it.
func TestP7_2FirstParts(t *testing.T) {
	for version := 1; version <= 3; version++ {
		b := fileOf(t, some(), version)
		for n := range len(b) + 1 {
			want := version
			if n < 5 {
				want = 0
			}
			versionIs(t, b[:n], want)
			versionIs(t, b[:n:n], want)
		}
	}
}

// All bytes that may stand there, alone and with more behind them; a longer form of a number is none.
func TestP7_2EachByte(t *testing.T) {
	for c := range 256 {
		want := 0
		if c >= 1 && c <= 3 {
			want = c
		}
		head := []byte{0x74, 0x77, 0x6E, 0x65, byte(c)}
		for _, more := range [][]byte{nil, {0}, {1}, {0x80}, {0x81, 0}, {1, 1, 7, 0}, bytes.Repeat([]byte{0xFF}, 50)} {
			versionIs(t, append(bytes.Clone(head), more...), want)
		}
	}
	for _, longer := range [][]byte{{0x81, 0}, {0x82, 0}, {0x83, 0}, {0x80, 0}, {0x83, 0x80, 0}, {0x80, 1}} {
		versionIs(t, append([]byte("twne"), longer...), 0)
	}
}

// Nothing else is looked at: what is behind may be no archive.
func TestP7_2NothingElse(t *testing.T) {
	b := fileOf(t, some(), 2)
	for at := 5; at < len(b); at++ {
		versionIs(t, turned(b, at, 0xFF), 2)
	}
	versionIs(t, append(b, 9, 9), 2)
	versionIs(t, []byte("twne\x03 and a text"), 3)
}

func TestP7_2Mark(t *testing.T) {
	for version := 1; version <= 3; version++ {
		b := fileOf(t, dir("", 7), version)
		for at := range 4 {
			for bits := 1; bits < 256; bits++ {
				versionIs(t, turned(b, at, byte(bits)), 0)
				versionIs(t, sealed(turned(unsealed(b), at, byte(bits))), 0)
			}
			versionIs(t, append(bytes.Clone(b[:at]), b[at+1:]...), 0)
		}
		versionIs(t, append([]byte{0}, b...), 0)
		versionIs(t, append([]byte{byte(version)}, b...), 0)
		versionIs(t, b[1:], 0)
		versionIs(t, b[4:], 0)
		versionIs(t, []byte{'e', 'n', 'w', 't', byte(version)}, 0)
		versionIs(t, []byte{'T', 'W', 'N', 'E', byte(version)}, 0)
	}
}

func TestP7_2BytesStay(t *testing.T) {
	whole := append(fileOf(t, some(), 3), bytes.Repeat([]byte{0xA5}, 32)...)
	before := bytes.Clone(whole)
	for n := range whole {
		Version(whole[:n])
	}
	if !bytes.Equal(whole, before) {
		t.Error("the bytes were changed, or the room behind them")
	}
}
