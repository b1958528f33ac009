package cursor

import (
	"math"

	"armoire/api"
	"armoire/tree"
)

// Range: the entries from a key on, to another one ("": to the end), without it, at most so many.
func Range(t *tree.Tree, from, to string, most int) ([]Entry, api.Errno) {
	c, err := At(t, from)
	if err != api.OK {
		return nil, err
	}
	var found []Entry
	for len(found) < most {
		entry, there, err := c.Next()
		if err != api.OK {
			return nil, err
		}
		if !there || to != "" && entry.Key >= to {
			break
		}
		found = append(found, entry)
	}
	return found, api.OK
}

// Above: the least text above all that begin with one; "": there is none.
func Above(prefix string) string {
	for size := len(prefix); size > 0; size-- {
		if last := prefix[size-1]; last < 0xff {
			return prefix[:size-1] + string([]byte{last + 1})
		}
	}
	return ""
}

// Under: the entries whose keys begin with a text, at most so many.
func Under(t *tree.Tree, prefix string, most int) ([]Entry, api.Errno) {
	return Range(t, prefix, Above(prefix), most)
}

// Wipe: all entries whose keys begin with a text go: how many.
func Wipe(t *tree.Tree, prefix string) (int, api.Errno) {
	// All are found ahead of the first Delete: a cursor's tree isn't changed while it is asked.
	found, err := Under(t, prefix, math.MaxInt)
	if err != api.OK {
		return 0, err
	}
	many := 0
	for _, entry := range found {
		gone, err := t.Delete(entry.Key)
		if err != api.OK {
			return many, err
		}
		if gone {
			many++
		}
	}
	return many, api.OK
}
