package value

import "armoire/api"

// Check: may it be?
func (s State) Check() api.Errno {
	if Word(s.Kind) == "" {
		return api.ErrKind
	}
	if !s.numberFits() {
		return api.ErrForm
	}
	if len(s.Rows) > s.mostRows() {
		return api.ErrFull
	}
	for at := range s.Rows {
		if err := s.checkRow(at); err != api.OK {
			return err
		}
	}
	return api.OK
}

// numberFits: has it a number just if its type has, and rows only if not?
func (s State) numberFits() bool {
	switch s.Kind {
	case Counter:
		return len(s.Rows) == 0
	case Account:
		return len(s.Rows) == 0 && s.N >= 0
	default:
		return s.N == 0
	}
}

// mostRows is how many rows one of its type may have.
func (s State) mostRows() int {
	if s.Kind == Register {
		return 1
	}
	return api.MaxItems
}

// checkRow: may a row stand where it does?
func (s State) checkRow(at int) api.Errno {
	r := s.Rows[at]
	if len(r.Key) > api.MaxText || len(r.Val) > api.MaxText {
		return api.ErrBig
	}
	if r.Val != "" && s.Kind != Directory || !s.keyFits(at) {
		return api.ErrForm
	}
	return api.OK
}

// keyFits: does a row's key stand as its type asks, behind the one ahead of it?
func (s State) keyFits(at int) bool {
	key := s.Rows[at].Key
	switch s.Kind {
	case Register:
		// Without a text it has no row: so there is one state of each.
		return key != ""
	case Set, Directory:
		return at == 0 || key > s.Rows[at-1].Key
	case Semi:
		return at == 0 || key >= s.Rows[at-1].Key
	default:
		return true
	}
}
