package codec

import (
	"bytes"
	"encoding/binary"
	"hash/crc32"
	"slices"
	"strings"

	"twine/api"
)

// This file: what P6.3 and P6.4 say, once more: nodes one behind the other, without going down into directories.

// flat: a node as it is written.
type flat struct {
	names  []string
	node   api.Node
	count  int
	hash   []byte
	hashAt int
}

// plainFile: a file that is read; it gives up by a panic with a fault.
type plainFile struct {
	b       []byte // ahead of the sum
	at      int
	version int
	nodes   []flat
}

// plainDecode tells the tree and the version, or a fault (else its Err is OK).
func plainDecode(b []byte, most int) (n api.Node, version int, fault api.Fault) {
	defer func() {
		if x := recover(); x != nil {
			n, version, fault = api.Node{}, 0, x.(api.Fault)
		}
	}()
	most = min(max(most, 1), 1<<20)
	if len(b) < 4 || string(b[:4]) != "twne" {
		giveUp(0, api.ErrCodecMark)
	}
	if len(b) < 5 || b[4] < 1 || b[4] > 3 { // a longer number is a greater one, or none
		giveUp(4, api.ErrCodecVersion)
	}
	if len(b) < 9 {
		giveUp(5, api.ErrCodecSum)
	}
	if binary.LittleEndian.Uint32(b[len(b)-4:]) != crc32.ChecksumIEEE(b[:len(b)-4]) {
		giveUp(len(b)-4, api.ErrCodecSum)
	}
	f := &plainFile{b: b[:len(b)-4], at: 5, version: int(b[4])}
	f.all(uint64(most))
	root, _ := raised(f.nodes)
	f.hashes(root, 0)
	return root, f.version, api.Fault{}
}

func giveUp(at int, e api.Errno) { panic(api.Fault{At: at, Err: e}) }

// uint: a number; ErrCodecForm, if there is none.
func (f *plainFile) uint() uint64 {
	n, size := binary.Uvarint(f.b[f.at:])
	if size <= 0 || len(number(n)) != size {
		giveUp(f.at, api.ErrCodecForm)
	}
	f.at += size
	return n
}

// within: a number from least to most, else e.
func (f *plainFile) within(least, most uint64, e api.Errno) int {
	at := f.at
	n := f.uint()
	if n > most {
		giveUp(at, e)
	}
	if n < least {
		giveUp(at, api.ErrCodecForm)
	}
	return int(n)
}

func (f *plainFile) raw(n int) []byte {
	if n > len(f.b)-f.at {
		giveUp(f.at, api.ErrCodecForm)
	}
	f.at += n
	return f.b[f.at-n : f.at]
}

// all: the nodes, one behind the other; to[d]: how many are to come yet with so many names.
func (f *plainFile) all(most uint64) {
	told := f.within(1, most, api.ErrCodecBounds)
	to := []int{1}
	var names []string // of the node ahead
	for len(to) > 0 {
		deep := len(to) - 1
		if to[deep] == 0 {
			to = to[:deep]
			continue
		}
		to[deep]--
		x := f.node(deep, names, told)
		f.nodes = append(f.nodes, x)
		names = x.names
		to = append(to, x.count)
	}
	if f.at < len(f.b) {
		giveUp(f.at, api.ErrCodecForm)
	}
	if len(f.nodes) < told {
		giveUp(5, api.ErrCodecForm)
	}
}

// node: one with so many names; ahead: the names of the node ahead of it.
func (f *plainFile) node(deep int, ahead []string, told int) flat {
	at := f.at
	if len(f.nodes) == told {
		giveUp(at, api.ErrCodecForm)
	}
	if deep > 64 {
		giveUp(at, api.ErrCodecBounds)
	}
	k := int(f.raw(1)[0])
	if k < 1 || k > 3 || deep == 0 && k != 1 {
		giveUp(at, api.ErrCodecForm)
	}
	var x flat
	x.node.Value.Kind = k
	if deep > 0 {
		x.node.Name = f.name(deep, ahead)
		x.names = append(slices.Clone(ahead[:deep-1]), x.node.Name)
	}
	f.fields(&x, told)
	return x
}

func (f *plainFile) name(deep int, ahead []string) string {
	at := f.at
	size := f.uint()
	if size > 255 {
		giveUp(at, api.ErrCodecBounds)
	}
	if size > uint64(len(f.b)-f.at) {
		giveUp(at, api.ErrCodecForm)
	}
	s := string(f.raw(int(size)))
	if s == "" || s == "." || s == ".." || strings.ContainsAny(s, "/\x00") {
		giveUp(at, api.ErrCodecForm)
	}
	if len(ahead) >= deep && s <= ahead[deep-1] { // else it is its directory's first
		giveUp(at, api.ErrCodecForm)
	}
	return s
}

func (f *plainFile) fields(x *flat, told int) {
	v := &x.node.Value
	if v.Kind == 2 {
		v.Size = f.within(0, 1<<40-1, api.ErrCodecForm)
	}
	if v.Kind == 3 {
		v.Size = f.within(1, 4095, api.ErrCodecForm)
	}
	if v.Kind != 1 {
		copy(v.Sum[:], f.raw(32))
	}
	if v.Kind != 3 {
		v.Mode = f.mode()
	}
	if v.Kind == 2 && f.version == 3 {
		for i := range x.node.Marks {
			m := &x.node.Marks[i]
			m.Number = f.within(0, 1<<56-1, api.ErrCodecForm)
			at := f.at
			m.Stamp = f.within(0, 1<<56-1, api.ErrCodecForm)
			if (m.Number == 0) != (m.Stamp == 0) {
				giveUp(at, api.ErrCodecForm)
			}
		}
	}
	if v.Kind == 1 {
		x.count = f.within(0, uint64(told-len(f.nodes)-1), api.ErrCodecForm)
		x.hashAt = f.at
		x.hash = f.raw(32)
	}
}

func (f *plainFile) mode() int {
	if f.version == 1 {
		return 8
	}
	at := f.at
	m := int(f.raw(1)[0])
	if m > 8 {
		giveUp(at, api.ErrCodecForm)
	}
	return m
}

// raised: the first node of l with all below it, and the nodes behind that.
func raised(l []flat) (api.Node, []flat) {
	n, rest := l[0].node, l[1:]
	for range l[0].count {
		var kid api.Node
		kid, rest = raised(rest)
		n.Kids = append(n.Kids, kid)
	}
	return n, rest
}

// hashes gives up at the first directory with a wrong hash; n is the node at i. It tells where the nodes behind n begin.
func (f *plainFile) hashes(n api.Node, i int) int {
	x := f.nodes[i]
	if n.Value.Kind == 1 && !bytes.Equal(hashOf(n), x.hash) {
		panic(api.Fault{At: x.hashAt, Path: strings.Join(x.names, "/"), Err: api.ErrCodecHash})
	}
	i++
	for _, kid := range n.Kids {
		i = f.hashes(kid, i)
	}
	return i
}
