package run

import (
	"errors"

	"twine/api"
	"twine/recon"
	"twine/store"
)

// fresh is where a save that never came to its end leaves its file on volume S.
const fresh = "archive.new"

func (c *course) openArchive() api.Reply {
	c.loader = store.Load(c.world, c.most)
	if _, err := c.loader.Step(); err != nil {
		return refused(faultOf(err).Err)
	}
	return api.Reply{Did: api.DidLoad}
}

func (c *course) readArchive() api.Reply {
	_, err := c.loader.Step()
	f := faultOf(err)
	t, _ := c.loader.Tree()
	switch {
	case c.forgets && !isInTheWay(f):
		t, c.report.Forgot = store.First(), true
	case f.Err != api.OK:
		return refused(f.Err)
	}
	c.old, c.loader = recon.Trim(t, c.rules), nil
	return api.Reply{Did: api.DidLoad}
}

// isInTheWay tells whether a fault stops a run that wants nothing of the archive: the world fails, or the place of the new one isn't free. (A wrong hash may have that very path, as one of the archive's tree.)
func isInTheWay(f api.Fault) bool {
	return f.Err == api.ErrWorldFault || isWorlds(f.Err) && f.Path == fresh
}

// isWorlds tells whether an error is one of layer 9, which has two blocks of numbers.
func isWorlds(e api.Errno) bool {
	return e >= api.ErrWorldVolume && e <= api.ErrWorldFull || e >= api.ErrWorldTaken && e <= api.ErrWorldDeep
}

// refused tells how a load that answered an error ends a run.
func refused(e api.Errno) api.Reply {
	if e == api.ErrWorldFault {
		return fault(e)
	}
	return bad(e)
}

// faultOf tells the fault that a loader's error is; the zero one of none.
func faultOf(err error) api.Fault {
	var f *api.Fault
	if errors.As(err, &f) {
		return *f
	}
	return api.Fault{}
}
