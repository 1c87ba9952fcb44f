package book

import (
	"strconv"

	"workcell/api"
	"workcell/fluid"
	"workcell/ware"
)

// part of a line: a word behind its first one, that speaks of something in an action.
type part interface {
	// refuse: what is wrong with it in the action?
	refuse(a api.Action) api.Errno
	// tell its word, if nothing is wrong with it.
	tell(a api.Action) string
	// read it back into an action; is its word ever told so?
	read(word string, into *api.Action) bool
}

// number from low to high.
type number struct {
	low, high int
	of        func(*api.Action) *int // which one it is in an action
}

func (n number) refuse(a api.Action) api.Errno {
	if v := *n.of(&a); v < n.low || v > n.high {
		return api.ErrRange
	}
	return api.OK
}

func (n number) tell(a api.Action) string { return strconv.Itoa(*n.of(&a)) }

func (n number) read(word string, into *api.Action) bool {
	v, err := strconv.Atoi(word)
	*n.of(into) = v
	return err == nil && n.refuse(*into) == api.OK && n.tell(*into) == word
}

// spot of an action's place.
type spot struct{}

func (spot) refuse(a api.Action) api.Errno {
	_, e := ware.Name(a.Place.Spot)
	return e
}

func (spot) tell(a api.Action) string {
	name, _ := ware.Name(a.Place.Spot)
	return name
}

// read: package ware takes a small letter, too, but tells none.
func (s spot) read(word string, into *api.Action) bool {
	found, e := ware.Spot(word)
	into.Place.Spot = found
	return e == api.OK && s.tell(*into) == word
}

// label of a liquid.
type label struct{}

func (label) refuse(a api.Action) api.Errno {
	return fluid.Check([]api.Parcel{{Label: a.Label}})
}

func (label) tell(a api.Action) string { return a.Label }

func (l label) read(word string, into *api.Action) bool {
	into.Label = word
	return l.refuse(*into) == api.OK
}
