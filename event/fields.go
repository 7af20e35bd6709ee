package event

import (
	"unicode/utf8"

	"casement/api"
)

// fields are what an event has beside its kind, put together as bits.
type fields uint8

const (
	key fields = 1 << iota
	place
	number
	words
	size
)

const (
	mostMods = 7 // all three
	buttons  = 3
	mostSize = 2 * api.MaxSide
)

// fieldsOf tells which fields events of a kind have: none, if it is no kind.
func fieldsOf(kind uint8) fields {
	var has fields
	switch kind {
	case api.EventKey:
		has = key
	case api.EventTick:
		has = number
	case api.EventResize:
		has = size
	case api.EventDown, api.EventUp, api.EventWheel:
		has = number
		fallthrough
	case api.EventMove:
		has |= place
	case api.EventDrag, api.EventDrop:
		has = place
		fallthrough
	case api.EventText:
		has |= words
	}
	return has
}

// isKind tells whether a kind is one of the ten.
func isKind(kind uint8) bool {
	return fieldsOf(kind) != 0
}

// mayBe tells whether an event may be: what it has is right, and it has nothing else.
func mayBe(e api.Event) bool {
	has := fieldsOf(e.Kind)
	switch {
	case has == 0 || e != only(e, has):
		return false
	case has&key != 0 && !keyMayBe(e.Key):
		return false
	case has&place != 0 && !placeMayBe(e.At):
		return false
	case has&number != 0 && !numberMayBe(e.Kind, e.N):
		return false
	case has&words != 0 && !within(len(e.Text), 1, longest(e.Kind)):
		return false
	}
	return has&size == 0 || sizeMayBe(e.Size)
}

// only is an event with these fields alone.
func only(e api.Event, has fields) api.Event {
	kept := api.Event{Kind: e.Kind}
	if has&key != 0 {
		kept.Key = e.Key
	}
	if has&place != 0 {
		kept.At = e.At
	}
	if has&number != 0 {
		kept.N = e.N
	}
	if has&words != 0 {
		kept.Text = e.Text
	}
	if has&size != 0 {
		kept.Size = e.Size
	}
	return kept
}

func within(n, least, most int) bool {
	return n >= least && n <= most
}

func keyMayBe(k api.Key) bool {
	return k.Mods <= mostMods && within(len(k.Name), 1, api.MaxName) && utf8.ValidString(k.Name)
}

func placeMayBe(p api.Point) bool {
	return within(p.X, -api.MaxSide, api.MaxSide) && within(p.Y, -api.MaxSide, api.MaxSide)
}

func sizeMayBe(s api.Size) bool {
	return within(s.W, 0, mostSize) && within(s.H, 0, mostSize)
}

// numberMayBe asks for the button of a down and an up, how far a wheel was turned, how many ticks went by.
func numberMayBe(kind uint8, n int) bool {
	switch kind {
	case api.EventTick:
		return within(n, 1, api.MaxTicks)
	case api.EventWheel:
		return n != 0 && within(n, -api.MaxSide, api.MaxSide)
	}
	return within(n, 1, buttons)
}

// longest is how many bytes a kind's Text may have: that of what is dragged is a name.
func longest(kind uint8) int {
	if kind == api.EventText {
		return api.MaxText
	}
	return api.MaxName
}
