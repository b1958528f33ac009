package names

import (
	"slices"
	"strings"

	"armoire/api"
	"armoire/codec"
	"armoire/cursor"
	"armoire/value"
)

// headKey is the key of an object's head.
func headKey(name string) string {
	return codec.Key(name) + "h"
}

// pieceKeys is what the keys of an object's pieces begin with, and no others.
func pieceKeys(name string) string {
	return codec.Key(name) + "r"
}

// Key: of an object's n-th piece.
func Key(name string, n int) string {
	return pieceKeys(name) + string([]byte{byte(n)})
}

// isPiece: is a key that of one of an object's first so many pieces?
func isPiece(key, name string, many int) bool {
	n, begins := strings.CutPrefix(key, pieceKeys(name))
	return begins && len(n) == 1 && int(n[0]) < many
}

// headOf is an object's head, as bytes.
func headOf(s value.State) string {
	var o codec.Out
	return o.N(s.Kind).I(s.N).N(len(s.Rows)).Text()
}

// piecesOf are an object's pieces, as bytes.
func piecesOf(s value.State) []string {
	var l []string
	for _, text := range textsOf(s) {
		var o codec.Out
		l = append(l, o.S(text).Text())
	}
	return l
}

// textsOf are the texts of an object, each of which is a piece.
func textsOf(s value.State) []string {
	var l []string
	for _, r := range s.Rows {
		l = append(l, r.Key)
		if s.Kind == value.Directory {
			l = append(l, r.Val)
		}
	}
	return l
}

// perRow is how many pieces each row of a type has.
func perRow(kind int) int {
	if kind == value.Directory {
		return 2
	}
	return 1
}

// stateOf is the object with that head, and these pieces; false: there is none such.
func stateOf(head string, pieces []cursor.Entry) (value.State, bool) {
	i := codec.Read(head)
	s := value.State{Kind: i.N(value.Semi), N: i.I()}
	rows := i.N(api.MaxItems)
	if i.End() != api.OK || len(pieces) != rows*perRow(s.Kind) {
		return value.State{}, false
	}
	for of := range slices.Chunk(pieces, perRow(s.Kind)) {
		r, isOne := rowOf(of)
		if !isOne {
			return value.State{}, false
		}
		s.Rows = append(s.Rows, r)
	}
	return s, s.Check() == api.OK
}

// rowOf is the row of one piece, its Key, or of two, its Key and Val; false: one of them isn't a text.
func rowOf(pieces []cursor.Entry) (value.Row, bool) {
	var texts [2]string
	for k, piece := range pieces {
		i := codec.Read(piece.Val)
		texts[k] = i.S(api.MaxText)
		if i.End() != api.OK {
			return value.Row{}, false
		}
	}
	return value.Row{Key: texts[0], Val: texts[1]}, true
}
