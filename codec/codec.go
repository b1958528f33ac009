// Package codec is layer 2: see shared/doc/02-codec.md.
package codec

import (
	"math/bits"

	"armoire/api"
)

// Out is bytes that grow.
type Out struct{ b []byte }

// Text: the bytes.
func (o *Out) Text() string {
	return string(o.b)
}

// U: numbers: how many bytes each has, and these, the highest first, without noughts ahead.
func (o *Out) U(l ...uint64) *Out {
	for _, n := range l {
		o.number(n)
	}
	return o
}

// number puts one number behind.
func (o *Out) number(n uint64) {
	size := (bits.Len64(n) + 7) / 8
	o.b = append(o.b, byte(size))
	for k := range size {
		o.b = append(o.b, byte(n>>(8*(size-1-k))))
	}
}

// N: numbers from 0 on.
func (o *Out) N(l ...int) *Out {
	for _, n := range l {
		o.number(fromNought(n))
	}
	return o
}

// fromNought is n as a number: 0, if it is below.
func fromNought(n int) uint64 {
	return uint64(max(n, 0))
}

// I: whole numbers, the sign as the lowest bit.
func (o *Out) I(l ...int64) *Out {
	for _, n := range l {
		o.number(fold(n))
	}
	return o
}

// fold is 2n of n from 0 on, -2n - 1 of others: there it turns all bits of 2n, as -2n itself may be 2^64, which 64 bits don't hold.
func fold(n int64) uint64 {
	if n < 0 {
		return ^(uint64(n) << 1)
	}
	return uint64(n) << 1
}

// unfold is fold's way back.
func unfold(u uint64) int64 {
	if u&1 == 1 {
		return ^int64(u >> 1)
	}
	return int64(u >> 1)
}

// S: texts, with how many bytes they have.
func (o *Out) S(l ...string) *Out {
	for _, text := range l {
		o.N(len(text))
		o.b = append(o.b, text...)
	}
	return o
}

// In takes things from the front of bytes; an error stays.
type In struct {
	rest string // empty as soon as there is an error
	err  api.Errno
}

// Read: all of a text.
func Read(s string) *In {
	return &In{rest: s}
}

// Err: the error.
func (i *In) Err() api.Errno {
	return i.err
}

// Len: how many bytes are left.
func (i *In) Len() int {
	return len(i.rest)
}

// Fail: an error, if there is none.
func (i *In) Fail(e api.Errno) {
	if i.err == api.OK && e != api.OK {
		i.err = e
		i.rest = ""
	}
}

// take is the next so many bytes; ErrEnd, if they are wanting.
func (i *In) take(size int) string {
	if size > len(i.rest) {
		i.Fail(api.ErrEnd)
		return ""
	}
	front := i.rest[:size]
	i.rest = i.rest[size:]
	return front
}

// size is the byte ahead of a number's: how many these are.
func (i *In) size() int {
	front := i.take(1)
	if front == "" {
		return 0
	}
	if front[0] > 8 {
		i.Fail(api.ErrForm)
		return 0
	}
	return int(front[0])
}

// U: a number.
func (i *In) U() uint64 {
	digits := i.take(i.size())
	if digits == "" {
		return 0
	}
	if digits[0] == 0 {
		i.Fail(api.ErrForm)
		return 0
	}
	var n uint64
	for _, b := range []byte(digits) {
		n = n<<8 | uint64(b)
	}
	return n
}

// N: a number of at most so much.
func (i *In) N(most int) int {
	n := i.U()
	if n > fromNought(most) {
		i.Fail(api.ErrBig)
		return 0
	}
	return int(n)
}

// I: a whole number.
func (i *In) I() int64 {
	return unfold(i.U())
}

// S: a text of at most so many bytes.
func (i *In) S(most int) string {
	return i.take(i.N(most))
}

// End: ErrForm, if something is left.
func (i *In) End() api.Errno {
	if i.Len() > 0 {
		i.Fail(api.ErrForm)
	}
	return i.err
}
