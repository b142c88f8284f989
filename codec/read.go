package codec

import (
	"bytes"
	"errors"
	"slices"

	"twine/api"
	"twine/path"
	"twine/tree"
	"twine/wire"
)

// reader: an archive's bytes ahead of the sum, read item by item. It notes the first item that isn't right; what it answers behind that means nothing.
type reader struct {
	*wire.Reader
	version int
	left    int // how many nodes are to come, by the number of nodes
	fault   *api.Fault
	stamps  []stamp // in the order of hashesOf
}

// stamp: a directory's hash as it is written, and its place.
type stamp struct {
	dir  *spot
	at   int
	hash [32]byte
}

// spot: where a node stands. A path is made of it only where one is told: those of all directories may have far more bytes than the file.
type spot struct {
	up   *spot // nil: it is the root
	name string
	deep int // how many names its path has
}

func (s *spot) path() string {
	var names []string
	for ; s.up != nil; s = s.up {
		names = append(names, s.name)
	}
	slices.Reverse(names)
	return path.Join(names)
}

// opened tells a reader that stands at the number of nodes, or what is wrong with the mark, the version or the sum.
func opened(b []byte) (*reader, *api.Fault) {
	head := wire.Read(b)
	if string(head.Raw(len(mark))) != mark {
		return nil, &api.Fault{At: 0, Err: api.ErrCodecMark}
	}
	at := head.At()
	version := int(head.Uint(lastVersion))
	if version < firstVersion { // so it is behind a fault, too
		return nil, &api.Fault{At: at, Err: api.ErrCodecVersion}
	}
	at = head.At()
	end := len(b) - sumSize
	if end < at {
		return nil, &api.Fault{At: at, Err: api.ErrCodecSum}
	}
	if !bytes.Equal(b[end:], sumOf(b[:end])) {
		return nil, &api.Fault{At: end, Err: api.ErrCodecSum}
	}
	r := &reader{Reader: wire.Read(b[:end]), version: version}
	r.Raw(at) // it reads from the first byte on, so that places are those of b
	return r, nil
}

// nodes reads the number of nodes, and all nodes.
func (r *reader) nodes(most int) api.Node {
	at := r.At()
	r.left = int(r.Uint(uint64(most)))
	r.bounded()
	r.must(at, r.left > 0)
	root := r.node(nil, "")
	r.End()
	r.must(r.At(), true)
	if r.left > 0 {
		r.refuse(at, api.ErrCodecForm)
	}
	return root
}

// node reads a node in the directory up (nil: the root), and all below it; last: the name ahead of its own there.
func (r *reader) node(up *spot, last string) api.Node {
	here := &spot{up: up}
	if up != nil {
		here.deep = up.deep + 1
	}
	var n api.Node
	n.Value.Kind = r.kind(here.deep)
	if up != nil {
		here.name = r.name(last)
		n.Name = here.name
	}
	if r.fault != nil { // what stands there may be deeper than one may go
		return n
	}
	switch n.Value.Kind {
	case api.Dir:
		n.Value.Mode = r.mode()
		n.Kids = r.children(here)
	case api.File:
		r.content(&n.Value, 0, api.MaxSize)
		n.Value.Mode = r.mode()
		n.Marks = r.marks()
	case api.Link:
		r.content(&n.Value, 1, api.MaxTarget)
	}
	return n
}

// kind reads the kind of a node whose path has so many names.
func (r *reader) kind(deep int) int {
	at := r.At()
	switch {
	case r.left == 0:
		r.refuse(at, api.ErrCodecForm)
	case deep > api.MaxDepth:
		r.refuse(at, api.ErrCodecBounds)
	}
	k := int(r.Byte())
	r.must(at, k == api.Dir || deep > 0 && (k == api.File || k == api.Link))
	r.left--
	return k
}

func (r *reader) name(last string) string {
	at := r.At()
	s := r.Text(api.MaxName)
	r.bounded()
	r.must(at, s > last && path.Check(s) == api.OK)
	return s
}

// content reads a size and a digest.
func (r *reader) content(v *api.Value, least, most int) {
	v.Size = r.number(least, most)
	v.Sum = r.sum()
}

func (r *reader) mode() int {
	if r.version < withModes {
		return api.Unknown
	}
	at := r.At()
	m := int(r.Byte())
	r.must(at, m <= api.Unknown)
	return m
}

func (r *reader) marks() [2]api.Mark {
	var l [2]api.Mark
	if r.version < withMarks {
		return l
	}
	for i := range l {
		l[i] = r.mark()
	}
	return l
}

func (r *reader) mark() api.Mark {
	number := r.number(0, api.MaxStamp)
	if number == 0 {
		return api.Mark{Stamp: r.number(0, 0)}
	}
	return api.Mark{Number: number, Stamp: r.number(1, api.MaxStamp)}
}

// children reads how many children the directory here has, its hash, and the children. How many it tells is no reason to make room for them: the bytes may end right there.
func (r *reader) children(here *spot) []api.Node {
	count := r.number(0, r.left)
	s := stamp{dir: here, at: r.At()}
	s.hash = r.sum()
	var kids []api.Node
	last := ""
	for range count {
		if r.fault != nil {
			return nil
		}
		kid := r.node(here, last)
		kids = append(kids, kid)
		last = kid.Name
	}
	r.stamps = append(r.stamps, s)
	return kids
}

// number reads a number from least to most.
func (r *reader) number(least, most int) int {
	at := r.At()
	n := int(r.Uint(uint64(most)))
	r.must(at, n >= least)
	return n
}

// sum reads 32 bytes.
func (r *reader) sum() [32]byte {
	at := r.At()
	var s [32]byte
	copy(s[:], r.Raw(len(s)))
	r.must(at, true)
	return s
}

// refuse notes what is wrong with the item at a place, unless one ahead of it was wrong.
func (r *reader) refuse(at int, e api.Errno) {
	if r.fault == nil {
		r.fault = &api.Fault{At: at, Err: e}
	}
}

// must refuses the item at a place, if wire couldn't read it, or it isn't right.
func (r *reader) must(at int, right bool) {
	if r.Err() != nil || !right {
		r.refuse(at, api.ErrCodecForm)
	}
}

// bounded refuses the item that was read last as out of bounds, if wire found it above what was allowed: that, unlike its other faults, wire tells at the item's first byte.
func (r *reader) bounded() {
	var f *api.Fault
	if errors.As(r.Err(), &f) && f.Err == api.ErrWireLong {
		r.refuse(f.At, api.ErrCodecBounds)
	}
}

// wrongHash tells the first directory of t, by path, whose written hash isn't the right one. Nodes are written in the order of their paths, so it is the one whose hash stands first.
func (r *reader) wrongHash(t *tree.Tree) *api.Fault {
	var first *stamp
	for i, h := range hashesOf(t) {
		s := &r.stamps[i]
		if s.hash != h && (first == nil || s.at < first.at) {
			first = s
		}
	}
	if first == nil {
		return nil
	}
	return &api.Fault{At: first.at, Path: first.dir.path(), Err: api.ErrCodecHash}
}
