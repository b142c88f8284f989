package recon

import (
	"twine/api"
	"twine/tree"
)

// rule: one of the merge's rules: what becomes of a spot, and the side of which that speaks; 0, if the rule doesn't apply.
type rule func(s spot) (what, side int)

// judge tells what becomes of a spot: what the first rule says that applies.
func (m *merger) judge(s spot) (what, side int) {
rules:
	for _, tell := range m.law {
		what, side = tell(s)
		switch {
		case what == api.Carry && m.refuses(s, other(side)):
			what, side = api.Conflict, 0
			break rules
		case what != 0:
			break rules
		}
	}
	return what, side
}

// refuses tells whether nothing may be carried to a side at a spot, whatever a rule prefers: what the rules let be would be in the way, or the directory above isn't there.
func (m *merger) refuses(s spot, side int) bool {
	return s.shut == side || m.isHeld(side, s.path)
}

// unreadable: rule 0.
func unreadable(s spot) (what, side int) {
	if len(s.lost) == 0 || isDir(s.sides[0]) && isDir(s.sides[1]) && !s.isLost() {
		return 0, 0
	}
	return api.Conflict, 0
}

// onBoth: rule 1, of a directory on both sides.
func onBoth(s spot) (what, side int) {
	if isDir(s.sides[0]) && isDir(s.sides[1]) {
		return api.Both, 0
	}
	return 0, 0
}

// kept: rule 1, of a held directory on one side.
func (m *merger) kept(s spot) (what, side int) {
	for _, side := range [...]int{api.SideA, api.SideB} {
		if isDir(s.side(side)) && m.isHeld(side, s.path) && isDir(s.old) && s.side(other(side)) == nil {
			return api.Kept, side
		}
	}
	return 0, 0
}

// agreed: rule 2.
func agreed(s spot) (what, side int) {
	if tree.Same(s.sides[0], s.sides[1], false) {
		return api.Agreed, 0
	}
	return 0, 0
}

// changedOnOne: rules 3 and 4.
func changedOnOne(s spot) (what, side int) {
	a, b := tree.Same(s.sides[0], s.old, true), tree.Same(s.sides[1], s.old, true)
	switch {
	case a && !b:
		return api.Carry, api.SideB
	case b && !a:
		return api.Carry, api.SideA
	}
	return 0, 0
}

// preferred: rule 5.
func (m *merger) preferred(s spot) (what, side int) {
	if side := m.user.Prefer(s.path); side != 0 {
		return api.Carry, side
	}
	return api.Conflict, 0
}
