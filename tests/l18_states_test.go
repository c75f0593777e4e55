package tests

import (
	"fmt"
	"math"
	"slices"
	"testing"

	"loop.example/g00857/impl"
)

const (
	// halfText is a square whose right half is folded over the left one.
	halfText = "(0,0) (2,0) (2,2) (0,2); .-+.; (0,0) (1,0) (1,2) (0,2) / r0 (0,0); (1,0) (2,0) (2,2) (1,2) / f4 (2,0)"
	// cupboardText is a square whose outer parts only touch after folding.
	cupboardText = "(0,0) (4,0) (4,4) (0,4); .-.+.+.-.; (0,0) (1,0) (1,4) (0,4) / r0 (0,0); (1,0) (3,0) (3,4) (1,4) / f4 (2,0); (3,0) (4,0) (4,4) (3,4) / r0 (-4,0)"
	// zigzagText is a strip of three parts, which lie over one another from 2 to 4.
	zigzagText = "(0,0) (9,0) (9,1) (0,1); .--+.-++.; (0,0) (4,0) (4,1) (0,1) / r0 (0,0); (4,0) (6,0) (6,1) (4,1) / f4 (8,0); (6,0) (9,0) (9,1) (6,1) / r0 (-4,0)"
	// quarterText is a square that is folded in half twice.
	quarterText = "(0,0) (2,0) (2,2) (0,2); .---+.+++-.-+-+.; (0,0) (1,0) (1,1) (0,1) / r0 (0,0); (0,1) (1,1) (1,2) (0,2) / f0 (0,2); (1,0) (2,0) (2,1) (1,1) / f4 (2,0); (1,1) (2,1) (2,2) (1,2) / r4 (2,2)"
)

func TestValidStates(t *testing.T) {
	for _, text := range []string{
		halfText, cupboardText, zigzagText, quarterText,
		"(0,0) (2,0) (2,2) (0,2); .; (0,0) (2,0) (2,2) (0,2) / r0 (0,0)",
		"(0,0) (2,0) (2,2) (0,2); .; (0,0) (2,0) (2,2) (0,2) / f3 (7,-1r)",
		// The order of faces with common area does not matter.
		"(0,0) (2,0) (2,2) (0,2); .+-.; (0,0) (1,0) (1,2) (0,2) / r0 (0,0); (1,0) (2,0) (2,2) (1,2) / f4 (2,0)",
		"(0,0) (9,0) (9,1) (0,1); .+--.++-.; (0,0) (4,0) (4,1) (0,1) / r0 (0,0); (4,0) (6,0) (6,1) (4,1) / f4 (8,0); (6,0) (9,0) (9,1) (6,1) / r0 (-4,0)",
		// All faces are moved, once with face 0 back up.
		"(0,0) (2,0) (2,2) (0,2); .-+.; (0,0) (1,0) (1,2) (0,2) / r2 (5,5); (1,0) (2,0) (2,2) (1,2) / f6 (5,7)",
		"(0,0) (2,0) (2,2) (0,2); .-+.; (0,0) (1,0) (1,2) (0,2) / f4 (0,0); (1,0) (2,0) (2,2) (1,2) / r0 (-2,0)",
		// A diagonal, and the greatest and the smallest numbers.
		"(0,0) (2,0) (2,2) (0,2); .+-.; (0,0) (2,0) (2,2) / r0 (0,0); (0,0) (2,2) (0,2) / f2 (0,0)",
		"(0,0) (131072,0) (131072,1) (0,1); .-+.; (0,0) (65536,0) (65536,1) (0,1) / r0 (0,0); (65536,0) (131072,0) (131072,1) (65536,1) / f4 (131072,0)",
		"(0,0) (1/1024,0) (1/1024,1/1024) (0,1/1024); .-+.; (0,0) (1/1024,0) (1/1024,1/1024) / r0 (0,0); (0,0) (1/1024,1/1024) (0,1/1024) / f2 (0,0)",
	} {
		s := mustState(t, text)
		if _, ok := stateOracle(s); !ok || !impl.ValidState(s) {
			t.Errorf("%q is valid: %v, not %v", text, impl.ValidState(s), ok)
		}
	}
}

// wrongStates are texts of states that break one condition each.
var wrongStates = []struct{ what, text string }{
	{"no paper", ";.; (0,0) (2,0) (2,2) (0,2) / r0 (0,0)"},
	{"paper that does not begin with its least corner", "(2,0) (2,2) (0,2) (0,0); .; (0,0) (2,0) (2,2) (0,2) / r0 (0,0)"},
	{"paper that is not convex", "(0,0) (2,0) (1,1) (2,2) (0,2); .; (0,0) (2,0) (2,2) (0,2) / r0 (0,0)"},
	{"paper with a superfluous corner", "(0,0) (1,0) (2,0) (2,2) (0,2); .; (0,0) (2,0) (2,2) (0,2) / r0 (0,0)"},
	{"no faces", "(0,0) (2,0) (2,2) (0,2);"},
	{"no faces, but an order", "(0,0) (2,0) (2,2) (0,2); ."},
	{"a face that does not begin with its least corner", "(0,0) (2,0) (2,2) (0,2); .-+.; (1,0) (1,2) (0,2) (0,0) / r0 (0,0); (1,0) (2,0) (2,2) (1,2) / f4 (2,0)"},
	{"a face with a superfluous corner", "(0,0) (2,0) (2,2) (0,2); .-+.; (0,0) (1,0) (1,1) (1,2) (0,2) / r0 (0,0); (1,0) (2,0) (2,2) (1,2) / f4 (2,0)"},
	{"a face without corners", "(0,0) (2,0) (2,2) (0,2); ....; / r0 (0,0); (0,0) (2,0) (2,2) (0,2) / r0 (0,0)"},
	{"faces in descending order", "(0,0) (2,0) (2,2) (0,2); .+-.; (1,0) (2,0) (2,2) (1,2) / f4 (2,0); (0,0) (1,0) (1,2) (0,2) / r0 (0,0)"},
	{"a face twice", "(0,0) (2,0) (2,2) (0,2); .-+.; (0,0) (2,0) (2,2) (0,2) / r0 (0,0); (0,0) (2,0) (2,2) (0,2) / r0 (0,0)"},
	{"faces that overlap", "(0,0) (2,0) (2,2) (0,2); .-+.; (0,0) (1,0) (1,2) (0,2) / r0 (0,0); (0,0) (2,0) (2,2) (0,2) / f4 (2,0)"},
	{"faces that overlap in a part", "(0,0) (3,0) (3,2) (0,2); .-+.; (0,0) (2,0) (2,2) (0,2) / r0 (0,0); (1,0) (3,0) (3,2) (1,2) / f4 (4,0)"},
	{"a triangle whose sides are on the border of the paper and that of an overlapping face", "(0,0) (2,0) (2,2) (0,2); .-+.; (0,0) (2,0) (0,2) / r0 (0,0); (0,0) (2,0) (2,2) (0,2) / r0 (0,0)"},
	{"faces that cover the paper twice, without common sides", "(0,0) (2,0) (2,2) (0,2); .---+.--++.-+++.; (0,0) (1,0) (1,2) (0,2) / r0 (0,0); (0,0) (2,0) (2,1) (0,1) / r0 (0,0); (0,1) (2,1) (2,2) (0,2) / f0 (0,2); (1,0) (2,0) (2,2) (1,2) / f4 (2,0)"},
	{"a gap at the border", "(0,0) (2,0) (2,2) (0,2); .; (0,0) (1,0) (1,2) (0,2) / r0 (0,0)"},
	{"a gap between the faces", "(0,0) (4,0) (4,2) (0,2); .-+.; (0,0) (1,0) (1,2) (0,2) / r0 (0,0); (3,0) (4,0) (4,2) (3,2) / f4 (4,0)"},
	{"a gap at a point", "(0,0) (2,0) (2,2) (0,2); .-+.; (0,0) (1,0) (1,1) (0,1) / r0 (0,0); (1,1) (2,1) (2,2) (1,2) / r4 (2,2)"},
	{"a gap inside", "(0,0) (3,0) (3,3) (0,3); ........; (0,0) (3,0) (2,1) (1,1) / r0 (0,0); (0,0) (1,1) (1,2) (0,3) / r0 (0,0); (0,3) (1,2) (2,2) (3,3) / r0 (0,0); (2,1) (3,0) (3,3) (2,2) / r0 (0,0)"},
	{"paper that is smaller than its only face", "(0,0) (1,0) (1,2) (0,2); .; (0,0) (2,0) (2,2) (0,2) / r0 (0,0)"},
	{"a face beyond the paper, whose side is one of the paper", "(0,0) (1,0) (1,2) (0,2); .-+.; (0,0) (1,0) (1,2) (0,2) / r0 (0,0); (1,0) (2,0) (2,2) (1,2) / f4 (2,0)"},
	{"a face beyond the paper, with corners on its sides", "(0,0) (2,0) (0,2); .-+.; (0,0) (2,0) (0,2) / r0 (0,0); (0,2) (2,0) (2,2) / f6 (2,2)"},
	{"all faces elsewhere", "(0,0) (2,0) (2,2) (0,2); .; (5,0) (7,0) (7,2) (5,2) / r0 (0,0)"},
	{"a side that is divided between two neighbours", "(0,0) (2,0) (2,2) (0,2); .--+.-++.; (0,0) (1,0) (1,2) (0,2) / r0 (0,0); (1,0) (2,0) (2,1) (1,1) / f4 (2,0); (1,1) (2,1) (2,2) (1,2) / r4 (2,2)"},
	{"a side that is divided between two neighbours with the same motion", "(0,0) (2,0) (2,2) (0,2); .--+..+..; (0,0) (1,0) (1,2) (0,2) / r0 (0,0); (1,0) (2,0) (2,1) (1,1) / f4 (2,0); (1,1) (2,1) (2,2) (1,2) / f4 (2,0)"},
	{"a neighbour that is longer, with a gap beside it", "(0,0) (2,0) (2,2) (0,2); .-+.; (0,0) (1,0) (1,1) (0,1) / r0 (0,0); (1,0) (2,0) (2,2) (1,2) / f4 (2,0)"},
	{"a motion with a wrong Turn", "(0,0) (2,0) (2,2) (0,2); .-+.; (0,0) (1,0) (1,2) (0,2) / r0 (0,0); (1,0) (2,0) (2,2) (1,2) / f0 (2,0)"},
	{"a neighbour with a wrong Flip at the right place", "(0,0) (2,0) (2,2) (0,2); .-+.; (0,0) (1,0) (1,2) (0,2) / r0 (0,0); (1,0) (2,0) (2,2) (1,2) / r0 (-1,0)"},
	{"a neighbour with a wrong Flip at the right place, turned", "(0,0) (2,0) (2,2) (0,2); .-+.; (0,0) (1,0) (1,2) (0,2) / r0 (0,0); (1,0) (2,0) (2,2) (1,2) / r4 (2,2)"},
	{"two neighbours with Flip", "(0,0) (2,0) (2,2) (0,2); .-+.; (0,0) (1,0) (1,2) (0,2) / f4 (1,0); (1,0) (2,0) (2,2) (1,2) / f4 (2,0)"},
	{"neighbours that are not folded", "(0,0) (2,0) (2,2) (0,2); ....; (0,0) (1,0) (1,2) (0,2) / r0 (0,0); (1,0) (2,0) (2,2) (1,2) / r0 (0,0)"},
	{"a neighbour with the right Flip at another place", "(0,0) (2,0) (2,2) (0,2); ....; (0,0) (1,0) (1,2) (0,2) / r0 (0,0); (1,0) (2,0) (2,2) (1,2) / f4 (3,0)"},
	{"a neighbour with the right Flip at nearly the same place", "(0,0) (2,0) (2,2) (0,2); .-+.; (0,0) (1,0) (1,2) (0,2) / r0 (0,0); (1,0) (2,0) (2,2) (1,2) / f4 (2049/1024,0)"},
	{"a neighbour that is shifted along the joint", "(0,0) (2,0) (2,2) (0,2); .-+.; (0,0) (1,0) (1,2) (0,2) / r0 (0,0); (1,0) (2,0) (2,2) (1,2) / f4 (2,1)"},
	{"a neighbour at the right place, but upside down", "(0,0) (2,0) (2,2) (0,2); .-+.; (0,0) (1,0) (1,2) (0,2) / r0 (0,0); (1,0) (2,0) (2,2) (1,2) / f0 (-1,2)"},
	{"a face that agrees with one neighbour only", "(0,0) (9,0) (9,1) (0,1); .--+.-++.; (0,0) (4,0) (4,1) (0,1) / r0 (0,0); (4,0) (6,0) (6,1) (4,1) / f4 (8,0); (6,0) (9,0) (9,1) (6,1) / r0 (-3,0)"},
	{"an order of another length", "(0,0) (2,0) (2,2) (0,2); .-+; (0,0) (1,0) (1,2) (0,2) / r0 (0,0); (1,0) (2,0) (2,2) (1,2) / f4 (2,0)"},
	{"no order", "(0,0) (2,0) (2,2) (0,2);; (0,0) (1,0) (1,2) (0,2) / r0 (0,0); (1,0) (2,0) (2,2) (1,2) / f4 (2,0)"},
	{"an order with an element too much", "(0,0) (2,0) (2,2) (0,2); .-+..; (0,0) (1,0) (1,2) (0,2) / r0 (0,0); (1,0) (2,0) (2,2) (1,2) / f4 (2,0)"},
	{"an order of one face that is empty", "(0,0) (2,0) (2,2) (0,2);; (0,0) (2,0) (2,2) (0,2) / r0 (0,0)"},
	{"an order of one face on its diagonal", "(0,0) (2,0) (2,2) (0,2); +; (0,0) (2,0) (2,2) (0,2) / r0 (0,0)"},
	{"an order without an element for faces that overlap", "(0,0) (2,0) (2,2) (0,2); ....; (0,0) (1,0) (1,2) (0,2) / r0 (0,0); (1,0) (2,0) (2,2) (1,2) / f4 (2,0)"},
	{"an order of which one element is missing", "(0,0) (2,0) (2,2) (0,2); .-..; (0,0) (1,0) (1,2) (0,2) / r0 (0,0); (1,0) (2,0) (2,2) (1,2) / f4 (2,0)"},
	{"an order with two faces above one another", "(0,0) (2,0) (2,2) (0,2); .++.; (0,0) (1,0) (1,2) (0,2) / r0 (0,0); (1,0) (2,0) (2,2) (1,2) / f4 (2,0)"},
	{"an order with two faces below one another", "(0,0) (2,0) (2,2) (0,2); .--.; (0,0) (1,0) (1,2) (0,2) / r0 (0,0); (1,0) (2,0) (2,2) (1,2) / f4 (2,0)"},
	{"an order with an element on the diagonal", "(0,0) (2,0) (2,2) (0,2); --+.; (0,0) (1,0) (1,2) (0,2) / r0 (0,0); (1,0) (2,0) (2,2) (1,2) / f4 (2,0)"},
	{"an order with an element for faces that only touch", "(0,0) (4,0) (4,4) (0,4); .-++.+--.; (0,0) (1,0) (1,4) (0,4) / r0 (0,0); (1,0) (3,0) (3,4) (1,4) / f4 (2,0); (3,0) (4,0) (4,4) (3,4) / r0 (-4,0)"},
	{"an order without an element for faces that are not neighbours", "(0,0) (9,0) (9,1) (0,1); .-.+.-.+.; (0,0) (4,0) (4,1) (0,1) / r0 (0,0); (4,0) (6,0) (6,1) (4,1) / f4 (8,0); (6,0) (9,0) (9,1) (6,1) / r0 (-4,0)"},
	{"a place beyond the limits", "(0,0) (131072,0) (131072,1) (0,1); .; (0,0) (131072,0) (131072,1) (0,1) / r0 (1,0)"},
	{"a place that is too fine", "(0,0) (1/1024,0) (1/1024,1) (0,1); .; (0,0) (1/1024,0) (1/1024,1) (0,1) / r1 (0,0)"},
}

func TestInvalidStates(t *testing.T) {
	for _, v := range wrongStates {
		s := mustState(t, v.text)
		if _, ok := stateOracle(s); ok {
			t.Fatalf("%s: the state is valid", v.what)
		}
		if impl.ValidState(s) {
			t.Errorf("%s: the state is accepted", v.what)
		}
		checkStateRejected(t, s)
	}
}

// checkStateRejected checks the results of all functions of chapter 18 for a state that is not valid.
func checkStateRejected(t *testing.T, s impl.State) {
	t.Helper()
	good := mustState(t, halfText)
	isZero := func(other impl.State, code int64) bool {
		return impl.SameState(other, impl.State{}) && code == impl.ErrInvalid
	}
	over, overCode := impl.TurnOver(s)
	normal, normalCode := impl.NormalState(s)
	if !isZero(over, overCode) || !isZero(normal, normalCode) || impl.ValidState(s) {
		t.Errorf("%s is turned over to %s, %d and moved back to %s, %d", stateText(s), stateText(over), overCode, stateText(normal), normalCode)
	}
	for _, m := range []impl.Motion{{}, {Turn: 9}, {Flip: true, X: impl.Num{A: impl.MaxPart}}} {
		if moved, code := impl.MoveState(s, m); !isZero(moved, code) {
			t.Errorf("%s is moved to %s, %d", stateText(s), stateText(moved), code)
		}
	}
	places, placesCode := impl.PlacesOf(s)
	joints, jointsCode := impl.JointsOf(s)
	if len(places)+len(joints) != 0 || placesCode != impl.ErrInvalid || jointsCode != impl.ErrInvalid {
		t.Errorf("%s has the places %v, %d and the joints %v, %d", stateText(s), places, placesCode, joints, jointsCode)
	}
	for _, p := range []impl.Point{{}, {X: impl.Num{A: 1, K: 1}, Y: impl.Num{A: 1, K: 1}}, {X: impl.Num{K: 1}}} {
		if layers, code := impl.LayersAt(s, p); len(layers) != 0 || code != impl.ErrInvalid {
			t.Errorf("%s has the layers %v, %d", stateText(s), layers, code)
		}
	}
	if impl.AlikeStates(s, s) || impl.AlikeStates(s, good) || impl.AlikeStates(good, s) || impl.AlikeStates(s, impl.State{}) {
		t.Errorf("%s is alike", stateText(s))
	}
}

func TestStatesWithTooManyFaces(t *testing.T) {
	state := uint64(109)
	for _, v := range []struct {
		columns, rows int64
		valid         bool
	}{{6, 4, true}, {24, 1, true}, {25, 1, false}, {5, 5, false}, {13, 2, false}, {8, 3, true}} {
		var leaves []leaf
		for x := range v.columns {
			for y := range v.rows {
				leaves = append(leaves, squareLeaf(x, y))
			}
		}
		far := impl.Point{X: impl.Num{A: v.columns}, Y: impl.Num{A: v.rows}}
		paper := []impl.Point{{}, {X: far.X}, far, {Y: far.Y}}
		s, ok := stateOfLeaves(&state, paper, leaves, impl.Motion{Turn: 2}, false)
		if !ok || impl.ValidState(s) != v.valid {
			t.Errorf("a state with %d faces is valid: %v", len(s.Faces), impl.ValidState(s))
		}
		if v.valid {
			checkState(t, s)
		} else {
			checkStateRejected(t, s)
		}
	}
}

// squareLeaf returns a unit square of a map that is folded to one square.
func squareLeaf(x, y int64) leaf {
	near, far := impl.Point{X: impl.Num{A: x}, Y: impl.Num{A: y}}, impl.Point{X: impl.Num{A: x + 1}, Y: impl.Num{A: y + 1}}
	ring := exactRing([]impl.Point{near, {X: far.X, Y: near.Y}, far, {X: near.X, Y: far.Y}})
	across := func(v, place exact) exact {
		// From 0 to 1 for even places, and back for odd ones.
		rest := v.difference(place)
		if place.product(exactParts(1, 0, 1)).floor().Int64()*2 != place.floor().Int64() {
			return exactParts(1, 0, 0).difference(rest)
		}
		return rest
	}
	return leaf{ring, frameBy(func(v exactPoint) exactPoint {
		return exactPoint{across(v.x, exactOf(near.X)), across(v.y, exactOf(near.Y))}
	})}
}

func TestSameState(t *testing.T) {
	texts := []string{halfText, cupboardText, zigzagText, quarterText}
	for _, v := range wrongStates {
		texts = append(texts, v.text)
	}
	for i, a := range texts {
		for k, b := range texts {
			if got := impl.SameState(mustState(t, a), mustState(t, b)); got != (i == k) {
				t.Errorf("%q and %q are the same: %v", a, b, got)
			}
		}
	}
	empty := impl.State{Paper: []impl.Point{}, Faces: []impl.Face{}, Order: []int64{}}
	if !impl.SameState(impl.State{}, empty) || !impl.SameState(empty, impl.State{}) || !impl.SameState(impl.State{Faces: []impl.Face{{}}}, impl.State{Faces: []impl.Face{{Poly: []impl.Point{}}}}) {
		t.Errorf("an empty list is not equal to none")
	}
	if impl.SameState(impl.State{}, impl.State{Faces: []impl.Face{{}}}) || impl.SameState(impl.State{Order: []int64{0}}, impl.State{}) || impl.SameState(impl.State{Paper: []impl.Point{{}}}, impl.State{}) {
		t.Errorf("different lengths are equal")
	}
	good := mustState(t, halfText)
	for i, change := range []func(s *impl.State){
		func(s *impl.State) { s.Paper[3].Y.K = 1 },
		func(s *impl.State) { s.Faces[1].Poly[2].X.B = 1 },
		func(s *impl.State) { s.Faces[0].Move.Turn = 8 },
		func(s *impl.State) { s.Faces[0].Move.Flip = true },
		func(s *impl.State) { s.Faces[1].Move.Y.A = 1 },
		func(s *impl.State) { s.Order[3] = math.MinInt64 },
		func(s *impl.State) { s.Faces[0].Poly = s.Faces[0].Poly[:3] },
		func(s *impl.State) { s.Faces = s.Faces[:1] },
		func(s *impl.State) { s.Order = append(s.Order, 0) },
	} {
		changed := cloneState(good)
		change(&changed)
		if impl.SameState(good, changed) || impl.SameState(changed, good) || !impl.SameState(changed, changed) {
			t.Errorf("change %d is not seen", i)
		}
	}
}

func TestStartState(t *testing.T) {
	for _, text := range polygonTexts {
		paper := mustPoints(t, text)
		s, code := impl.StartState(paper)
		want := impl.State{Paper: paper, Faces: []impl.Face{{Poly: paper}}, Order: []int64{0}}
		if code != impl.OK || !impl.SameState(s, want) || !impl.ValidState(s) {
			t.Errorf("unfolded paper %q is %s, %d", text, stateText(s), code)
		}
	}
	bad := [][]impl.Point{nil, {}, make([]impl.Point, 4), make([]impl.Point, 17), make([]impl.Point, 100000)}
	for _, text := range wrongPolygonTexts {
		bad = append(bad, mustPoints(t, text))
	}
	for i, p := range invalidPoints() {
		list := mustPoints(t, polygonTexts[0])
		list[i%4] = p
		bad = append(bad, list)
	}
	for _, paper := range bad {
		if s, code := impl.StartState(paper); code != impl.ErrInvalid || !impl.SameState(s, impl.State{}) {
			t.Errorf("unfolded paper %v is %s, %d", paper[:min(len(paper), 20)], stateText(s), code)
		}
	}
}

func TestPlacesOf(t *testing.T) {
	for _, v := range []struct {
		text   string
		places []string
	}{
		{halfText, []string{"(0,0) (1,0) (1,2) (0,2)", "(0,0) (1,0) (1,2) (0,2)"}},
		{cupboardText, []string{"(0,0) (1,0) (1,4) (0,4)", "(-1,0) (1,0) (1,4) (-1,4)", "(-1,0) (0,0) (0,4) (-1,4)"}},
		{zigzagText, []string{"(0,0) (4,0) (4,1) (0,1)", "(2,0) (4,0) (4,1) (2,1)", "(2,0) (5,0) (5,1) (2,1)"}},
		{quarterText, slices.Repeat([]string{"(0,0) (1,0) (1,1) (0,1)"}, 4)},
		{"(0,0) (2,0) (2,2) (0,2); .; (0,0) (2,0) (2,2) (0,2) / f1 (1r,0)", []string{"(1r,0) (2r,-1r) (3r,0) (2r,1r)"}},
		{"(0,0) (2,0) (2,2) (0,2); .+-.; (0,0) (2,0) (2,2) / r4 (0,0); (0,0) (2,2) (0,2) / f6 (0,0)", []string{"(-2,-2) (0,0) (-2,0)", "(-2,-2) (0,0) (-2,0)"}},
	} {
		places, code := impl.PlacesOf(mustState(t, v.text))
		if code != impl.OK || len(places) != len(v.places) {
			t.Fatalf("the places of %q are %v, %d", v.text, places, code)
		}
		for i, place := range places {
			if !slices.Equal(place, mustPoints(t, v.places[i])) {
				t.Errorf("place %d of %q is %v", i, v.text, place)
			}
		}
	}
}

func TestJointsOf(t *testing.T) {
	joint := func(a, b int64, ends string, kind int64) impl.Joint {
		points := mustPoints(t, ends)
		return impl.Joint{A: a, B: b, P: points[0], Q: points[1], Kind: kind}
	}
	for _, v := range []struct {
		text   string
		joints []impl.Joint
	}{
		{"(0,0) (2,0) (2,2) (0,2); .; (0,0) (2,0) (2,2) (0,2) / r0 (0,0)", nil},
		// The kind for each order, with each of the faces back up.
		{halfText, []impl.Joint{joint(0, 1, "(1,0) (1,2)", impl.KdValley)}},
		{"(0,0) (2,0) (2,2) (0,2); .+-.; (0,0) (1,0) (1,2) (0,2) / r0 (0,0); (1,0) (2,0) (2,2) (1,2) / f4 (2,0)", []impl.Joint{joint(0, 1, "(1,0) (1,2)", impl.KdMountain)}},
		{"(0,0) (2,0) (2,2) (0,2); .-+.; (0,0) (1,0) (1,2) (0,2) / f4 (0,0); (1,0) (2,0) (2,2) (1,2) / r0 (-2,0)", []impl.Joint{joint(0, 1, "(1,0) (1,2)", impl.KdMountain)}},
		{"(0,0) (2,0) (2,2) (0,2); .+-.; (0,0) (1,0) (1,2) (0,2) / f4 (0,0); (1,0) (2,0) (2,2) (1,2) / r0 (-2,0)", []impl.Joint{joint(0, 1, "(1,0) (1,2)", impl.KdValley)}},
		{cupboardText, []impl.Joint{joint(0, 1, "(1,0) (1,4)", impl.KdValley), joint(1, 2, "(3,0) (3,4)", impl.KdValley)}},
		{zigzagText, []impl.Joint{joint(0, 1, "(4,0) (4,1)", impl.KdValley), joint(1, 2, "(6,0) (6,1)", impl.KdMountain)}},
		{quarterText, []impl.Joint{joint(0, 1, "(0,1) (1,1)", impl.KdValley), joint(0, 2, "(1,0) (1,1)", impl.KdValley), joint(1, 3, "(1,1) (1,2)", impl.KdValley), joint(2, 3, "(1,1) (2,1)", impl.KdMountain)}},
		{"(0,0) (2,0) (2,2) (0,2); .+-.; (0,0) (2,0) (0,2) / r2 (3,0); (0,2) (2,0) (2,2) / f0 (1,2)", []impl.Joint{joint(0, 1, "(0,2) (2,0)", impl.KdMountain)}},
	} {
		if joints, code := impl.JointsOf(mustState(t, v.text)); code != impl.OK || !slices.Equal(joints, v.joints) {
			t.Errorf("the joints of %q are %v, %d, not %v", v.text, joints, code, v.joints)
		}
	}
}

func TestLayersAt(t *testing.T) {
	circle := "(0,0) (9,0) (9,1) (0,1); .+--.++-.; (0,0) (4,0) (4,1) (0,1) / r0 (0,0); (4,0) (6,0) (6,1) (4,1) / f4 (8,0); (6,0) (9,0) (9,1) (6,1) / r0 (-4,0)"
	for _, v := range []struct {
		text, at string
		want     []int64
		code     int64
	}{
		{halfText, "(1/2,1)", []int64{0, 1}, impl.OK}, {halfText, "(1023/1024,2047/1024)", []int64{0, 1}, impl.OK},
		{halfText, "(1,1)", nil, impl.OK}, {halfText, "(0,1)", nil, impl.OK}, {halfText, "(0,0)", nil, impl.OK}, {halfText, "(1,2)", nil, impl.OK}, {halfText, "(3/2,1)", nil, impl.OK}, {halfText, "(-1,-1)", nil, impl.OK}, {halfText, "(131072,-131072)", nil, impl.OK},
		// On the side or at the corner of one face, and inside of others.
		{zigzagText, "(1,1/2)", []int64{0}, impl.OK}, {zigzagText, "(3,1/2)", []int64{0, 1, 2}, impl.OK}, {zigzagText, "(9/2,1/2)", []int64{2}, impl.OK}, {zigzagText, "(2,1/2)", []int64{0}, impl.OK}, {zigzagText, "(4,1/2)", []int64{2}, impl.OK}, {zigzagText, "(2,1)", nil, impl.OK}, {zigzagText, "(5,1/2)", nil, impl.OK},
		{cupboardText, "(1/2,1)", []int64{0, 1}, impl.OK}, {cupboardText, "(-1/2,3)", []int64{2, 1}, impl.OK}, {cupboardText, "(0,2)", []int64{1}, impl.OK}, {cupboardText, "(1,2)", nil, impl.OK},
		{quarterText, "(1/2,1/2)", []int64{0, 2, 3, 1}, impl.OK}, {quarterText, "(1r/2,1/1024)", []int64{0, 2, 3, 1}, impl.OK}, {quarterText, "(1/2,1)", nil, impl.OK},
		// Three faces in a circle, which are over some points only.
		{circle, "(3,1/2)", nil, impl.ErrOrder}, {circle, "(2049/1024,1/1024)", nil, impl.ErrOrder}, {circle, "(1,1/2)", []int64{0}, impl.OK}, {circle, "(2,1/2)", []int64{0}, impl.OK}, {circle, "(9/2,1/2)", []int64{2}, impl.OK}, {circle, "(3,1)", nil, impl.OK}, {circle, "(6,0)", nil, impl.OK},
	} {
		s := mustState(t, v.text)
		facts, _ := stateOracle(s)
		if want, code := layersOracle(s, facts, mustPoint(t, v.at)); !slices.Equal(want, v.want) || code != v.code {
			t.Fatalf("the layers of %q at %s are %v, %d, not %v, %d", v.text, v.at, want, code, v.want, v.code)
		}
		if got, code := impl.LayersAt(s, mustPoint(t, v.at)); !slices.Equal(got, v.want) || code != v.code {
			t.Errorf("the layers of %q at %s are %v, %d, not %v, %d", v.text, v.at, got, code, v.want, v.code)
		}
	}
	for _, p := range invalidPoints() {
		for _, text := range []string{halfText, circle} {
			if got, code := impl.LayersAt(mustState(t, text), p); len(got) != 0 || code != impl.ErrInvalid {
				t.Errorf("the layers at the invalid point %v are %v, %d", p, got, code)
			}
		}
	}
}

// TestAllOrdersOfFourLayers checks the layers of four squares for each order, of which 24 are linear.
func TestAllOrdersOfFourLayers(t *testing.T) {
	s := mustState(t, quarterText)
	linear := 0
	for mask := range 64 {
		above := orderOfPairs(4, mask)
		s.Order = above
		facts, ok := stateOracle(s)
		want, wantCode := layersOracle(s, facts, mustPoint(t, "(1/2,1/4)"))
		got, code := impl.LayersAt(s, mustPoint(t, "(1/2,1/4)"))
		if !ok || !slices.Equal(got, want) || code != wantCode {
			t.Errorf("the layers for %v are %v, %d, not %v, %d", above, got, code, want, wantCode)
		}
		if code == impl.OK {
			linear++
		}
	}
	if linear != 24 {
		t.Errorf("%d orders are linear", linear)
	}
}

// orderOfPairs returns an order of faces that all lie over one another, with a bit for each pair.
func orderOfPairs(n, mask int) []int64 {
	order := make([]int64, n*n)
	for i := range n {
		for k := range i {
			above := int64(mask&1*2 - 1)
			order[i*n+k], order[k*n+i] = above, -above
			mask >>= 1
		}
	}
	return order
}

func TestTurnOver(t *testing.T) {
	for _, v := range []struct{ text, want string }{
		{"(0,0) (2,0) (2,2) (0,2); .; (0,0) (2,0) (2,2) (0,2) / r0 (0,0)", "(0,0) (2,0) (2,2) (0,2); .; (0,0) (2,0) (2,2) (0,2) / f4 (0,0)"},
		{halfText, "(0,0) (2,0) (2,2) (0,2); .+-.; (0,0) (1,0) (1,2) (0,2) / f4 (0,0); (1,0) (2,0) (2,2) (1,2) / r0 (-2,0)"},
		{zigzagText, "(0,0) (9,0) (9,1) (0,1); .++-.+--.; (0,0) (4,0) (4,1) (0,1) / f4 (0,0); (4,0) (6,0) (6,1) (4,1) / r0 (-8,0); (6,0) (9,0) (9,1) (6,1) / f4 (4,0)"},
		{"(0,0) (2,0) (2,2) (0,2); .; (0,0) (2,0) (2,2) (0,2) / r1 (5,3)", "(0,0) (2,0) (2,2) (0,2); .; (0,0) (2,0) (2,2) (0,2) / f3 (-5,3)"},
		{"(0,0) (2,0) (2,2) (0,2); .; (0,0) (2,0) (2,2) (0,2) / f7 (-131072,131070)", "(0,0) (2,0) (2,2) (0,2); .; (0,0) (2,0) (2,2) (0,2) / r5 (131072,131070)"},
	} {
		s := mustState(t, v.text)
		over, code := impl.TurnOver(s)
		if want := mustState(t, v.want); code != impl.OK || !impl.SameState(over, want) {
			t.Errorf("%q is turned over to %s, %d", v.text, stateText(over), code)
		}
		back, code := impl.TurnOver(over)
		if code != impl.OK || !impl.SameState(back, s) {
			t.Errorf("%q is turned over twice to %s, %d", v.text, stateText(back), code)
		}
	}
}

func TestMoveStateAtTheLimits(t *testing.T) {
	square := "(0,0) (1,0) (1,1) (0,1); .; (0,0) (1,0) (1,1) (0,1) / r0 (0,0)"
	tiny := "(0,0) (1/1024,0) (1/1024,1) (0,1); .; (0,0) (1/1024,0) (1/1024,1) (0,1) / r0 (0,0)"
	for _, v := range []struct {
		text, motion string
		code         int64
	}{
		{square, "r0 (131071,0)", impl.OK}, {square, "r0 (131072,0)", impl.ErrRange}, {square, "r0 (-131072,-131072)", impl.OK}, {square, "r4 (131072,131072)", impl.OK}, {square, "r2 (0,131072)", impl.ErrRange}, {square, "r2 (-131072,0)", impl.ErrRange}, {square, "f0 (0,131072)", impl.OK}, {square, "r1 (65535r,0)", impl.OK}, {square, "r1 (65536r,0)", impl.ErrRange}, {square, "r1 (1/1024,0)", impl.OK},
		// A motion leaves the limits although no place does.
		{halfText, "r0 (131071,0)", impl.ErrRange}, {halfText, "r0 (131070,0)", impl.OK}, {halfText, "r4 (131072,0)", impl.OK}, {halfText, "r4 (-131070,0)", impl.OK}, {halfText, "r4 (-131071,0)", impl.ErrRange}, {halfText, "r0 (-131072,0)", impl.OK},
		{tiny, "r0 (0,0)", impl.OK}, {tiny, "r2 (0,1/1024)", impl.OK}, {tiny, "r1 (0,0)", impl.ErrRange}, {tiny, "f7 (5,0)", impl.ErrRange}, {square, "r0 (0,1/1024)", impl.OK},
	} {
		s := mustState(t, v.text)
		m := mustMotion(t, v.motion)
		want, wantCode := moveStateOracle(s, m)
		if moved, code := impl.MoveState(s, m); code != v.code || wantCode != v.code || !impl.SameState(moved, want) {
			t.Errorf("%q is moved by %s to %s, %d, not %d, %d", v.text, v.motion, stateText(moved), code, wantCode, v.code)
		}
	}
	for _, m := range invalidMotions() {
		if moved, code := impl.MoveState(mustState(t, halfText), m); code != impl.ErrInvalid || !impl.SameState(moved, impl.State{}) {
			t.Errorf("the invalid motion %v moves a state to %s, %d", m, stateText(moved), code)
		}
	}
}

func TestNormalState(t *testing.T) {
	for _, v := range []struct {
		text, want string
		code       int64
	}{
		{halfText, halfText, impl.OK},
		{"(0,0) (2,0) (2,2) (0,2); .-+.; (0,0) (1,0) (1,2) (0,2) / r2 (5,5); (1,0) (2,0) (2,2) (1,2) / f6 (5,7)", halfText, impl.OK},
		{"(0,0) (2,0) (2,2) (0,2); .+-.; (0,0) (1,0) (1,2) (0,2) / f4 (0,0); (1,0) (2,0) (2,2) (1,2) / r0 (-2,0)", halfText, impl.OK},
		// The inverse leaves the limits, which the Move and the place do not.
		{"(-2,-2) (0,-2) (0,0) (-2,0); .; (-2,-2) (0,-2) (0,0) (-2,0) / r1 (131072,131071)", "", impl.ErrRange},
		{"(-2,-2) (0,-2) (0,0) (-2,0); .; (-2,-2) (0,-2) (0,0) (-2,0) / r1 (131072,131072)", "(-2,-2) (0,-2) (0,0) (-2,0); .; (-2,-2) (0,-2) (0,0) (-2,0) / r0 (0,0)", impl.OK},
		{"(0,0) (1,0) (1,1) (0,1); .; (0,0) (1,0) (1,1) (0,1) / r1 (1/1024,0)", "", impl.ErrRange},
		// A Move leaves the limits.
		{"(0,0) (131072,0) (131072,1) (0,1); .-+.; (0,0) (100000,0) (100000,1) (0,1) / r0 (-131072,0); (100000,0) (131072,0) (131072,1) (100000,1) / f4 (68928,0)", "", impl.ErrRange},
		// A place leaves the limits.
		{"(-131072,0) (131072,0) (131072,1) (-131072,1); .-+.; (-131072,0) (-1,0) (-1,1) (-131072,1) / r0 (10,0); (-1,0) (131072,0) (131072,1) (-1,1) / f4 (8,0)", "", impl.ErrRange},
	} {
		s := mustState(t, v.text)
		if _, ok := stateOracle(s); !ok {
			t.Fatalf("%q is not valid", v.text)
		}
		want := impl.State{}
		if v.want != "" {
			want = mustState(t, v.want)
		}
		if got, code := impl.NormalState(s); code != v.code || !impl.SameState(got, want) {
			t.Errorf("the normal state of %q is %s, %d, not %q", v.text, stateText(got), code, v.want)
		}
		if got := impl.AlikeStates(s, s); got != (v.code == impl.OK) {
			t.Errorf("%q and itself are alike: %v", v.text, got)
		}
	}
}

func TestAlikeStates(t *testing.T) {
	mountain := "(0,0) (2,0) (2,2) (0,2); .+-.; (0,0) (1,0) (1,2) (0,2) / r0 (0,0); (1,0) (2,0) (2,2) (1,2) / f4 (2,0)"
	for _, v := range []struct {
		a, b string
		want bool
	}{
		{halfText, halfText, true},
		{halfText, "(0,0) (2,0) (2,2) (0,2); .-+.; (0,0) (1,0) (1,2) (0,2) / r2 (5,5); (1,0) (2,0) (2,2) (1,2) / f6 (5,7)", true},
		{halfText, "(0,0) (2,0) (2,2) (0,2); .+-.; (0,0) (1,0) (1,2) (0,2) / f4 (0,0); (1,0) (2,0) (2,2) (1,2) / r0 (-2,0)", true},
		// The same places seen from behind, with the order of before; another order, paper, and number of faces.
		{halfText, "(0,0) (2,0) (2,2) (0,2); .-+.; (0,0) (1,0) (1,2) (0,2) / f4 (0,0); (1,0) (2,0) (2,2) (1,2) / r0 (-2,0)", false},
		{mountain, "(0,0) (2,0) (2,2) (0,2); .-+.; (0,0) (1,0) (1,2) (0,2) / f4 (0,0); (1,0) (2,0) (2,2) (1,2) / r0 (-2,0)", true},
		{halfText, mountain, false},
		{halfText, "(5,0) (7,0) (7,2) (5,2); .-+.; (5,0) (6,0) (6,2) (5,2) / r0 (0,0); (6,0) (7,0) (7,2) (6,2) / f4 (12,0)", false},
		{halfText, "(0,0) (2,0) (2,2) (0,2); .-+.; (0,0) (2,0) (2,1) (0,1) / r0 (0,0); (0,1) (2,1) (2,2) (0,2) / f0 (0,2)", false},
		{halfText, quarterText, false}, {zigzagText, cupboardText, false},
		{"(0,0) (2,0) (2,2) (0,2); .; (0,0) (2,0) (2,2) (0,2) / r0 (0,0)", "(0,0) (2,0) (2,2) (0,2); .; (0,0) (2,0) (2,2) (0,2) / f3 (7,-1r)", true},
		{"(0,0) (2,0) (2,2) (0,2); .; (0,0) (2,0) (2,2) (0,2) / r0 (0,0)", "(0,0) (2,0) (2,2); .; (0,0) (2,0) (2,2) / r0 (0,0)", false},
	} {
		a, b := mustState(t, v.a), mustState(t, v.b)
		if !impl.ValidState(a) || !impl.ValidState(b) {
			t.Fatalf("%q or %q is not valid", v.a, v.b)
		}
		if impl.AlikeStates(a, b) != v.want || impl.AlikeStates(b, a) != v.want {
			t.Errorf("%q and %q are alike: %v, %v", v.a, v.b, impl.AlikeStates(a, b), impl.AlikeStates(b, a))
		}
	}
	if impl.AlikeStates(impl.State{}, impl.State{}) {
		t.Errorf("two states that are not valid are alike")
	}
}

func TestWildStatesAreRejected(t *testing.T) {
	t.Parallel()
	rejected := 0
	for _, s := range wildStates(t) {
		if impl.ValidState(s) {
			if _, ok := stateOracle(s); !ok {
				t.Errorf("%s is accepted", fmt.Sprint(stateText(s)))
			}
			continue
		}
		rejected++
		checkStateRejected(t, s)
	}
	if rejected < 500 {
		t.Errorf("only %d states are rejected", rejected)
	}
}
