package record

import (
	"armoire/adt"
	"armoire/intent"
	"armoire/method"
	"armoire/names"
	"armoire/value"
)

// Objects is the state of all objects, by names; the catalog's is "".
type Objects map[string]value.State

// Empty: none but the catalog.
func Empty() Objects {
	return Objects{names.Catalog: value.New(value.Directory)}
}

// Get: an object; one that the catalog names, and that was never changed, is new.
func (o Objects) Get(name string) (value.State, bool) {
	if s, there := o[name]; there {
		return s.Clone(), true
	}
	catalog := o[names.Catalog]
	at, named := catalog.Find(name)
	if !named {
		return value.State{}, false
	}
	return value.New(value.Kind(catalog.Rows[at].Val)), true
}

// Clone: ones that go their own way.
func (o Objects) Clone() Objects {
	clone := Objects{}
	for name, s := range o {
		clone[name] = s.Clone()
	}
	return clone
}

// Redo: what a commit did is done: the objects that it changed, in that order.
func (o Objects) Redo(c Commit) []string {
	var changed []string
	for _, e := range c.Entries {
		if o.redo(e) {
			changed = append(changed, e.Object)
		}
	}
	return changed
}

// redo: what an entry did is done; false: it changes nothing, or its object isn't there.
func (o Objects) redo(e intent.Entry) bool {
	call, result := e.Step.Call, e.Step.Result
	if !method.Changes(call, result) {
		return false
	}
	s, there := o.Get(e.Object)
	if !there {
		return false
	}
	o[e.Object] = adt.Apply(s, call, result)
	return true
}

// Legal: are a commit's entries legal, one behind the other? How many are.
func (o Objects) Legal(c Commit) int {
	clone := o.Clone()
	for at, e := range c.Entries {
		s, there := clone.Get(e.Object)
		if !there || !adt.Legal(s, e.Step.Call, e.Step.Result) {
			return at
		}
		clone.redo(e)
	}
	return len(c.Entries)
}

// Same: are these the same objects?
func (o Objects) Same(p Objects) bool {
	return o.sameIn(p) && p.sameIn(o)
}

// sameIn: is each object that has a state here the same there? There the catalog alone may name it, as long as it is new.
func (o Objects) sameIn(p Objects) bool {
	for name, s := range o {
		t, there := p.Get(name)
		if !there || !s.Same(t) {
			return false
		}
	}
	return true
}
