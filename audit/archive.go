package audit

import (
	"errors"

	"twine/api"
	"twine/codec"
	"twine/recon"
	"twine/rules"
	"twine/tree"
)

// The places on volume S.
const (
	archive = "archive"
	fresh   = "archive.new" // where a new archive is made ahead of taking its place
)

// archive tells the archive's tree of volume S, without what the rules let be; nil and an error, if what stands there is none.
func (m picture) archive(r *rules.Rules, most int) (*tree.Tree, api.Errno) {
	x, ok := m[archive]
	switch {
	case !ok:
		return first(), api.OK
	case x.Kind != api.File:
		return nil, api.ErrStoreKind
	}
	t, _, err := codec.Decode(x.Data, most)
	var f *api.Fault
	if errors.As(err, &f) {
		return nil, f.Err
	}
	return recon.Trim(t, r), api.OK
}

// first tells the first archive's tree.
func first() *tree.Tree {
	t, _ := tree.Of(api.Node{Value: api.Value{Kind: api.Dir, Mode: api.Unknown}}) // it takes this: an archive's mode may be unknown
	return t
}
