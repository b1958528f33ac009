package pages

import (
	"armoire/api"
	"armoire/codec"
	"armoire/space"
	"armoire/stamp"
)

// superPlace is where the superblock of a checkpoint stands: never on that of the one ahead, which is needed until it lasts.
func superPlace(gen int) int {
	return gen % supers
}

// mayBeRoot: is it no page, or one that a checkpoint of this space has in use?
func mayBeRoot(used *space.Space, root int) bool {
	state := used.State(root)
	return root == -1 || state == space.Used || state == space.Fresh
}

// sector is the superblock, of a checkpoint of these pages.
func (u Super) sector(used *space.Space) stamp.Sector {
	var o codec.Out
	data := o.N(u.Root+1, u.Log, u.Next).S(used.Text()).Text()
	return stamp.Sector{Stamp: u.Gen, Data: data}
}

// parseSuper is what a superblock says, of a store of so many pages; false: it is none.
func parseSuper(s stamp.Sector, n int) (Super, *space.Space, bool) {
	i := codec.Read(s.Data)
	u := Super{Gen: s.Stamp}
	u.Root = i.N(n) - 1
	u.Log = i.N(api.MaxStamp)
	u.Next = i.N(api.MaxStamp)
	text := i.S(stamp.Room)
	if i.End() != api.OK || s.Mark != 0 || u.Log < 1 {
		return Super{}, nil, false
	}
	used, err := space.Parse(n, text)
	if err != api.OK || !mayBeRoot(used, u.Root) {
		return Super{}, nil, false
	}
	return u, used, true
}
