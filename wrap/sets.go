package wrap

import (
	"casement/api"
	"casement/part"
)

// The types of wrappers, one for each set of abilities. Each embeds what it can, and nothing else: what is promoted from there is its method set. A type's number has a bit for each ability, as api tells them.
type (
	can0 struct{ *wrapped }
	can1 struct {
		*wrapped
		measuring
	}
	can2 struct {
		*wrapped
		painting
	}
	can3 struct {
		*wrapped
		measuring
		painting
	}
	can4 struct {
		*wrapped
		focusing
	}
	can5 struct {
		*wrapped
		measuring
		focusing
	}
	can6 struct {
		*wrapped
		painting
		focusing
	}
	can7 struct {
		*wrapped
		measuring
		painting
		focusing
	}
	can8 struct {
		*wrapped
		scrolling
	}
	can9 struct {
		*wrapped
		measuring
		scrolling
	}
	can10 struct {
		*wrapped
		painting
		scrolling
	}
	can11 struct {
		*wrapped
		measuring
		painting
		scrolling
	}
	can12 struct {
		*wrapped
		focusing
		scrolling
	}
	can13 struct {
		*wrapped
		measuring
		focusing
		scrolling
	}
	can14 struct {
		*wrapped
		painting
		focusing
		scrolling
	}
	can15 struct {
		*wrapped
		measuring
		painting
		focusing
		scrolling
	}
	can16 struct {
		*wrapped
		accepting
	}
	can17 struct {
		*wrapped
		measuring
		accepting
	}
	can18 struct {
		*wrapped
		painting
		accepting
	}
	can19 struct {
		*wrapped
		measuring
		painting
		accepting
	}
	can20 struct {
		*wrapped
		focusing
		accepting
	}
	can21 struct {
		*wrapped
		measuring
		focusing
		accepting
	}
	can22 struct {
		*wrapped
		painting
		focusing
		accepting
	}
	can23 struct {
		*wrapped
		measuring
		painting
		focusing
		accepting
	}
	can24 struct {
		*wrapped
		scrolling
		accepting
	}
	can25 struct {
		*wrapped
		measuring
		scrolling
		accepting
	}
	can26 struct {
		*wrapped
		painting
		scrolling
		accepting
	}
	can27 struct {
		*wrapped
		measuring
		painting
		scrolling
		accepting
	}
	can28 struct {
		*wrapped
		focusing
		scrolling
		accepting
	}
	can29 struct {
		*wrapped
		measuring
		focusing
		scrolling
		accepting
	}
	can30 struct {
		*wrapped
		painting
		focusing
		scrolling
		accepting
	}
	can31 struct {
		*wrapped
		measuring
		painting
		focusing
		scrolling
		accepting
	}
	can32 struct {
		*wrapped
		holding
	}
	can33 struct {
		*wrapped
		measuring
		holding
	}
	can34 struct {
		*wrapped
		painting
		holding
	}
	can35 struct {
		*wrapped
		measuring
		painting
		holding
	}
	can36 struct {
		*wrapped
		focusing
		holding
	}
	can37 struct {
		*wrapped
		measuring
		focusing
		holding
	}
	can38 struct {
		*wrapped
		painting
		focusing
		holding
	}
	can39 struct {
		*wrapped
		measuring
		painting
		focusing
		holding
	}
	can40 struct {
		*wrapped
		scrolling
		holding
	}
	can41 struct {
		*wrapped
		measuring
		scrolling
		holding
	}
	can42 struct {
		*wrapped
		painting
		scrolling
		holding
	}
	can43 struct {
		*wrapped
		measuring
		painting
		scrolling
		holding
	}
	can44 struct {
		*wrapped
		focusing
		scrolling
		holding
	}
	can45 struct {
		*wrapped
		measuring
		focusing
		scrolling
		holding
	}
	can46 struct {
		*wrapped
		painting
		focusing
		scrolling
		holding
	}
	can47 struct {
		*wrapped
		measuring
		painting
		focusing
		scrolling
		holding
	}
	can48 struct {
		*wrapped
		accepting
		holding
	}
	can49 struct {
		*wrapped
		measuring
		accepting
		holding
	}
	can50 struct {
		*wrapped
		painting
		accepting
		holding
	}
	can51 struct {
		*wrapped
		measuring
		painting
		accepting
		holding
	}
	can52 struct {
		*wrapped
		focusing
		accepting
		holding
	}
	can53 struct {
		*wrapped
		measuring
		focusing
		accepting
		holding
	}
	can54 struct {
		*wrapped
		painting
		focusing
		accepting
		holding
	}
	can55 struct {
		*wrapped
		measuring
		painting
		focusing
		accepting
		holding
	}
	can56 struct {
		*wrapped
		scrolling
		accepting
		holding
	}
	can57 struct {
		*wrapped
		measuring
		scrolling
		accepting
		holding
	}
	can58 struct {
		*wrapped
		painting
		scrolling
		accepting
		holding
	}
	can59 struct {
		*wrapped
		measuring
		painting
		scrolling
		accepting
		holding
	}
	can60 struct {
		*wrapped
		focusing
		scrolling
		accepting
		holding
	}
	can61 struct {
		*wrapped
		measuring
		focusing
		scrolling
		accepting
		holding
	}
	can62 struct {
		*wrapped
		painting
		focusing
		scrolling
		accepting
		holding
	}
	can63 struct {
		*wrapped
		measuring
		painting
		focusing
		scrolling
		accepting
		holding
	}
)

// typed is a wrapper as a value of the type that can just this.
func typed(can uint16, w *wrapped) part.Part {
	switch can & (api.Accepts | api.Holds) {
	case api.Accepts:
		return typedAccepting(can, w)
	case api.Holds:
		return typedHolding(can, w)
	case api.Accepts | api.Holds:
		return typedAcceptingHolding(can, w)
	}
	return typedSimple(can, w)
}

// typedSimple is one that neither accepts nor holds. Those that follow are of those that do.
func typedSimple(can uint16, w *wrapped) part.Part {
	m, p, f, s := measuring{w}, painting{w}, focusing{w}, scrolling{w}
	switch can {
	case 0:
		return &can0{w}
	case 1:
		return &can1{w, m}
	case 2:
		return &can2{w, p}
	case 3:
		return &can3{w, m, p}
	case 4:
		return &can4{w, f}
	case 5:
		return &can5{w, m, f}
	case 6:
		return &can6{w, p, f}
	case 7:
		return &can7{w, m, p, f}
	case 8:
		return &can8{w, s}
	case 9:
		return &can9{w, m, s}
	case 10:
		return &can10{w, p, s}
	case 11:
		return &can11{w, m, p, s}
	case 12:
		return &can12{w, f, s}
	case 13:
		return &can13{w, m, f, s}
	case 14:
		return &can14{w, p, f, s}
	}
	return &can15{w, m, p, f, s}
}

func typedAccepting(can uint16, w *wrapped) part.Part {
	m, p, f, s := measuring{w}, painting{w}, focusing{w}, scrolling{w}
	a := accepting{w}
	switch can {
	case 16:
		return &can16{w, a}
	case 17:
		return &can17{w, m, a}
	case 18:
		return &can18{w, p, a}
	case 19:
		return &can19{w, m, p, a}
	case 20:
		return &can20{w, f, a}
	case 21:
		return &can21{w, m, f, a}
	case 22:
		return &can22{w, p, f, a}
	case 23:
		return &can23{w, m, p, f, a}
	case 24:
		return &can24{w, s, a}
	case 25:
		return &can25{w, m, s, a}
	case 26:
		return &can26{w, p, s, a}
	case 27:
		return &can27{w, m, p, s, a}
	case 28:
		return &can28{w, f, s, a}
	case 29:
		return &can29{w, m, f, s, a}
	case 30:
		return &can30{w, p, f, s, a}
	}
	return &can31{w, m, p, f, s, a}
}

func typedHolding(can uint16, w *wrapped) part.Part {
	m, p, f, s := measuring{w}, painting{w}, focusing{w}, scrolling{w}
	h := holding{w}
	switch can {
	case 32:
		return &can32{w, h}
	case 33:
		return &can33{w, m, h}
	case 34:
		return &can34{w, p, h}
	case 35:
		return &can35{w, m, p, h}
	case 36:
		return &can36{w, f, h}
	case 37:
		return &can37{w, m, f, h}
	case 38:
		return &can38{w, p, f, h}
	case 39:
		return &can39{w, m, p, f, h}
	case 40:
		return &can40{w, s, h}
	case 41:
		return &can41{w, m, s, h}
	case 42:
		return &can42{w, p, s, h}
	case 43:
		return &can43{w, m, p, s, h}
	case 44:
		return &can44{w, f, s, h}
	case 45:
		return &can45{w, m, f, s, h}
	case 46:
		return &can46{w, p, f, s, h}
	}
	return &can47{w, m, p, f, s, h}
}

func typedAcceptingHolding(can uint16, w *wrapped) part.Part {
	m, p, f, s := measuring{w}, painting{w}, focusing{w}, scrolling{w}
	a, h := accepting{w}, holding{w}
	switch can {
	case 48:
		return &can48{w, a, h}
	case 49:
		return &can49{w, m, a, h}
	case 50:
		return &can50{w, p, a, h}
	case 51:
		return &can51{w, m, p, a, h}
	case 52:
		return &can52{w, f, a, h}
	case 53:
		return &can53{w, m, f, a, h}
	case 54:
		return &can54{w, p, f, a, h}
	case 55:
		return &can55{w, m, p, f, a, h}
	case 56:
		return &can56{w, s, a, h}
	case 57:
		return &can57{w, m, s, a, h}
	case 58:
		return &can58{w, p, s, a, h}
	case 59:
		return &can59{w, m, p, s, a, h}
	case 60:
		return &can60{w, f, s, a, h}
	case 61:
		return &can61{w, m, f, s, a, h}
	case 62:
		return &can62{w, p, f, s, a, h}
	}
	return &can63{w, m, p, f, s, a, h}
}
