package intent

import (
	"armoire/adt"
	"armoire/api"
	"armoire/codec"
	"armoire/method"
)

// Entry is a step on an object.
type Entry struct {
	Object string
	Step   adt.Step
}

// idle: does an entry change nothing?
func (e Entry) idle() bool {
	return !method.Changes(e.Step.Call, e.Step.Result)
}

// Put: an entry, behind other bytes.
func (e Entry) Put(o *codec.Out) {
	o.S(e.Object)
	e.Step.Call.Put(o)
	e.Step.Result.Put(o)
}

// Read: and back, of the front of bytes.
func Read(i *codec.In) Entry {
	object := i.S(api.MaxName)
	step := adt.Step{Call: method.ReadCall(i), Result: method.ReadResult(i)}
	if i.Err() != api.OK {
		return Entry{}
	}
	return Entry{Object: object, Step: step}
}
