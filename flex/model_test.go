package flex

import (
	"cmp"
	"math/rand"
	"slices"
	"testing"

	"casement/api"
)

// modelShare finds the level to which the room lifts all growers: sorted by how high each one's top lies, the first ones have their top, the others what the level gives them.
func modelShare(l []api.Track, room int) []int {
	sizes := make([]int, len(l))
	left, g := room, 0
	var bound []int // growers with a top
	full := make([]bool, len(l))
	for i, x := range l {
		sizes[i] = x.Min
		left -= x.Min
		g += x.Grow
		if x.Grow > 0 && x.Max > 0 {
			bound = append(bound, i)
		}
	}
	if left <= 0 {
		return sizes
	}
	slices.SortFunc(bound, func(i, j int) int {
		return cmp.Compare((l[i].Max-l[i].Min)*l[j].Grow, (l[j].Max-l[j].Min)*l[i].Grow)
	})
	for _, i := range bound {
		if l[i].Grow*left < g*(l[i].Max-l[i].Min) {
			break
		}
		full[i], sizes[i] = true, l[i].Max
		left -= l[i].Max - l[i].Min
		g -= l[i].Grow
	}
	over := left
	for i, x := range l {
		if !full[i] && x.Grow > 0 {
			sizes[i] += left * x.Grow / g
			over -= left * x.Grow / g
		}
	}
	for i, x := range l {
		if !full[i] && x.Grow > 0 && over > 0 {
			sizes[i]++
			over--
		}
	}
	return sizes
}

// modelShareWords follows the chapter's words, round by round; rounds: in how many of them somebody got its top.
func modelShareWords(l []api.Track, room int) (sizes []int, rounds int) {
	sizes = make([]int, len(l))
	left := room
	part := map[int]int{} // who takes part, and what it lacks; -1: any
	for i, x := range l {
		sizes[i], left = x.Min, left-x.Min
		if x.Grow > 0 && x.Max == 0 {
			part[i] = -1
		} else if x.Grow > 0 {
			part[i] = x.Max - x.Min
		}
	}
	if left <= 0 {
		return sizes, 0
	}
	for ; ; rounds++ {
		g, gone, lacked := 0, []int{}, 0
		for i := range part {
			g += l[i].Grow
		}
		for i, lack := range part {
			if lack >= 0 && left*l[i].Grow >= g*lack {
				gone, lacked = append(gone, i), lacked+lack
			}
		}
		for _, i := range gone {
			sizes[i] = l[i].Max
			delete(part, i)
		}
		if len(gone) > 0 {
			left -= lacked
			continue
		}
		over := left
		for i := range part {
			sizes[i] += left * l[i].Grow / g
			over -= left * l[i].Grow / g
		}
		for i := range l {
			if _, ok := part[i]; ok && over > 0 {
				sizes[i]++
				over--
			}
		}
		return sizes, rounds
	}
}

func modelMost(l []api.Track) int {
	sum := 0
	for _, x := range l {
		switch {
		case x.Grow == 0:
			sum += x.Min
		case x.Max == 0:
			return -1
		default:
			sum += x.Max
		}
	}
	return sum
}

// thrown is n tracks with numbers up to great; one in three does not grow, one in three has any top, one in nine its Min.
func thrown(r *rand.Rand, n, great int) []api.Track {
	var l []api.Track
	for range n {
		x := api.Track{Min: r.Intn(great + 1)}
		switch r.Intn(9) {
		case 0, 1, 2:
		case 3:
			x.Max = x.Min
		default:
			x.Max = x.Min + r.Intn(great-x.Min+1)
		}
		if r.Intn(3) > 0 {
			x.Grow = 1 + r.Intn(great)
		}
		l = append(l, x)
	}
	return l
}

func total(l []int) int {
	sum := 0
	for _, n := range l {
		sum += n
	}
	return sum
}

// follows asks for what P10.6 promises of sizes in a room.
func follows(t *testing.T, l []api.Track, room int, sizes []int) {
	t.Helper()
	need, _ := Need(l)
	most, _ := Most(l)
	growers := 0
	for i, x := range l {
		if sizes[i] < x.Min || x.Grow > 0 && x.Max > 0 && sizes[i] > x.Max || x.Grow == 0 && sizes[i] != x.Min {
			t.Fatalf("Share(%v, %d): %v: the track %d has what it may not have", l, room, sizes, i)
		}
		if x.Grow > 0 {
			growers++
		}
	}
	want := room
	switch {
	case room < need:
		want = need
	case most >= 0 && room > most:
		want = most
	case growers == 0 && room != need:
		t.Fatalf("%v: the need %d, the most %d, no grower", l, need, most)
	}
	if total(sizes) != want {
		t.Fatalf("Share(%v, %d): %v: all together have %d, not %d", l, room, sizes, total(sizes), want)
	}
	fair(t, l, sizes)
}

func fair(t *testing.T, l []api.Track, sizes []int) {
	t.Helper()
	for i, one := range l {
		for j, other := range l {
			if one.Grow == 0 || other.Grow == 0 || i == j || other.Max > 0 && sizes[j] >= other.Max {
				continue
			}
			x, y := sizes[i]-one.Min, sizes[j]-other.Min
			if (x-1)*other.Grow >= (y+1)*one.Grow {
				t.Fatalf("%v: %v: %d and %d are not fair", l, sizes, i, j)
			}
		}
	}
}

// lies asks of a Row that it is the Share of what the gaps leave and the Starts of that, that no two lie over one another, and that it ends within its room where it may.
func lies(t *testing.T, l []api.Track, gap, room int) {
	t.Helper()
	sizes, starts, e := Row(l, gap, room)
	gaps := 0
	if len(l) > 0 {
		gaps = gap * (len(l) - 1)
	}
	want, _ := Share(l, max(0, room-gaps))
	if e != api.OK || !slices.Equal(sizes, want) {
		t.Fatalf("Row(%v, %d, %d): %v, %d; %v", l, gap, room, sizes, e, want)
	}
	if got, e := Starts(sizes, gap); !slices.Equal(got, starts) || e != api.OK {
		t.Fatalf("Starts(%v, %d): %v, %d; %v", sizes, gap, got, e, starts)
	}
	end := 0
	for i, at := range starts {
		if i > 0 && at != end+gap || i == 0 && at != 0 {
			t.Fatalf("Row(%v, %d, %d): %v, %v: the track %d does not lie behind the one ahead", l, gap, room, sizes, starts, i)
		}
		end = at + sizes[i]
	}
	if need, _ := Need(l); room >= need+gaps && end > room {
		t.Fatalf("Row(%v, %d, %d): %v, %v end beyond the room", l, gap, room, sizes, starts)
	}
}

func hangsTogether(t *testing.T, l []api.Track, gap, room int) {
	t.Helper()
	sizes, e := Share(l, room)
	if want := modelShare(l, room); e != api.OK || !slices.Equal(sizes, want) {
		t.Fatalf("Share(%v, %d): %v, %d; %v", l, room, sizes, e, want)
	}
	if want, _ := modelShareWords(l, room); !slices.Equal(sizes, want) {
		t.Fatalf("Share(%v, %d): %v; by the words %v", l, room, sizes, want)
	}
	least := 0
	for _, x := range l {
		least += x.Min
	}
	if got, e := Need(l); got != least || e != api.OK {
		t.Fatalf("Need(%v): %d, %d", l, got, e)
	}
	if got, e := Most(l); got != modelMost(l) || e != api.OK {
		t.Fatalf("Most(%v): %d, %d", l, got, e)
	}
	follows(t, l, room, sizes)
	lies(t, l, gap, room)
}

// P10.1, P10.2, P10.3, P10.4, P10.6
func TestThrown(t *testing.T) {
	r := rand.New(rand.NewSource(10))
	below, between, above := 0, 0, 0
	for range 30000 {
		great := 1 + r.Intn(12)
		l := thrown(r, r.Intn(7), great)
		need, most := total(modelShare(l, 0)), modelMost(l)
		room := r.Intn(6*great + 1)
		switch {
		case room < need:
			below++
		case most >= 0 && room > most:
			above++
		default:
			between++
		}
		hangsTogether(t, l, r.Intn(5), room)
	}
	if below < 3000 || between < 3000 || above < 3000 {
		t.Errorf("too few of one sort: %d, %d, %d", below, between, above)
	}
}

// P10.1, P10.6: the same tracks in each room, from none to more than most of them can use.
func TestEachRoom(t *testing.T) {
	r := rand.New(rand.NewSource(11))
	for range 500 {
		l := thrown(r, 1+r.Intn(6), 1+r.Intn(9))
		for room := range 60 {
			hangsTogether(t, l, room%4, room)
		}
	}
}

// P10.1, P10.4, P10.6: great ones, with numbers up to the ends.
func TestThrownGreat(t *testing.T) {
	r := rand.New(rand.NewSource(12))
	for range 150 {
		n := 1 + r.Intn(60)
		for _, great := range []int{1, 40, 1 << 8, 1 << 10, side} {
			l := thrown(r, n, great)
			hangsTogether(t, l, r.Intn(great+1), r.Intn(room2+1))
			for i := range l { // small Mins, so that there is something to share
				l[i].Min = min(l[i].Min, 3)
			}
			hangsTogether(t, l, r.Intn(20), room2-r.Intn(9))
		}
	}
	for range 3 {
		l := thrown(r, api.MaxNodes, 20)
		hangsTogether(t, l, r.Intn(6), room2-r.Intn(room2/2))
	}
}

// P10.1: of two tracks and three, all there are with small numbers.
func TestTriedOneByOne(t *testing.T) {
	var all []api.Track
	for least := range 3 {
		for most := range 4 {
			for grow := range 4 {
				if most == 0 || most >= least {
					all = append(all, track(least, most, grow))
				}
			}
		}
	}
	for _, a := range all {
		for _, b := range all {
			for room := range 10 {
				hangsTogether(t, tracks(a, b), room%3, room)
			}
		}
	}
	for _, a := range all {
		for _, b := range all {
			for _, c := range all {
				l := tracks(a, b, c)
				for _, room := range []int{4, 7} {
					got, e := Share(l, room)
					if e != api.OK || !slices.Equal(got, modelShare(l, room)) {
						t.Fatalf("Share(%v, %d): %v, %d", l, room, got, e)
					}
				}
			}
		}
	}
}
