package impl

import (
	"math/big"
	"slices"
	"testing"
)

// A way along which the parts of a shift become too large for an int64 has millions of joints, so these
// tests check the sums by themselves.

func bigPart(s partSum) *big.Int {
	high := new(big.Int).Lsh(big.NewInt(s.high), lowBits)
	return high.Add(high, big.NewInt(s.low))
}

func TestPartSumsAreExact(t *testing.T) {
	parts := []int64{0, 1, -1, 1 << 31, -1 << 31, 1<<32 - 1, 1 << 32, -1 << 32, 1<<54 - 1, 1 - 1<<54, 0x155555555, -0x2AAAAAAAA, 12345678901234}
	for _, first := range parts {
		for _, second := range parts {
			var s partSum
			want := new(big.Int)
			for i := range 4000 {
				part := first
				if i%3 == 2 {
					part = second
				}
				s.add(part)
				want.Add(want, big.NewInt(part))
			}
			if bigPart(s).Cmp(want) != 0 {
				t.Fatalf("the sum of %d and %d is %v, not %v", first, second, bigPart(s), want)
			}
			isSmall := want.IsInt64() && absolute(want.Int64()) < 1<<50
			if isSmall && s.part() != want.Int64() || !isSmall && absolute(s.part()) < 1<<49 {
				t.Errorf("the sum %v has the part %d", want, s.part())
			}
		}
	}
}

func TestSumsComeBack(t *testing.T) {
	var s wideSum
	huge, small := wide{Num{A: 1<<40 - 1, B: 1 - 1<<40, K: 0}}, wide{Num{A: 3, B: -5, K: 14}}
	for i := range 100000 {
		s.add(huge)
		if _, ok := s.number().limited(); ok {
			t.Fatalf("the sum of %d numbers %v is valid", i+1, huge)
		}
	}
	if bigPart(s.a).IsInt64() || bigPart(s.b).IsInt64() {
		t.Errorf("the sum %v is not too large", s)
	}
	s.add(small)
	for range 100000 {
		s.add(huge.negative())
	}
	if s.number() != small {
		t.Errorf("the sum that comes back is %v, not %v", s.number(), small)
	}
}

func TestSumsAtTheLimits(t *testing.T) {
	for _, v := range []struct {
		terms []wide
		want  Num
		ok    bool
	}{
		{nil, Num{}, true},
		{[]wide{{Num{A: MaxPart}}}, Num{A: MaxPart}, true}, {[]wide{{Num{A: -MaxPart}}}, Num{A: -MaxPart}, true}, {[]wide{{Num{B: -MaxPart}}, {Num{A: 1}}}, Num{A: 1, B: -MaxPart}, true},
		{[]wide{{Num{A: MaxPart}}, {Num{A: 1}}}, Num{}, false}, {[]wide{{Num{B: -MaxPart}}, {Num{B: -1}}}, Num{}, false}, {[]wide{{Num{A: MaxPart}}, {Num{A: 1}}, {Num{A: -2}}}, Num{A: MaxPart - 1}, true},
		{[]wide{{Num{A: 1, K: 14}}}, Num{}, false}, {[]wide{{Num{A: 1, K: 14}}, {Num{A: 15, K: 14}}}, Num{A: 1, K: 10}, true}, {[]wide{{Num{B: 1, K: 11}}, {Num{B: -3, K: 11}}}, Num{B: -1, K: 10}, true},
		{[]wide{{Num{A: -1, K: 12}}, {Num{A: 1, K: 13}}, {Num{A: 1, K: 13}}}, Num{}, true}, {slices.Repeat([]wide{{Num{A: 1 << 39}}}, 1<<13), Num{}, false}, {slices.Repeat([]wide{{Num{B: -1 << 39}}}, 1<<13), Num{}, false},
	} {
		var s wideSum
		for _, x := range v.terms {
			s.add(x)
		}
		if got, ok := s.number().limited(); got != v.want || ok != v.ok {
			t.Errorf("the sum of %v is %v, %v, not %v, %v", v.terms[:min(len(v.terms), 4)], got, ok, v.want, v.ok)
		}
	}
}

// TestNumbersOfFoldingsStaySmall crosses as many joints as a face can be away from face 0, on any lines.
func TestNumbersOfFoldingsStaySmall(t *testing.T) {
	points := extremePoints()
	for seed := range 300 {
		move := matrixOf(Identity())
		w := walk{turned: move}
		for step := range MaxFaces {
			line := directedLineAt(points[(seed*7+step*(seed%36+5))%len(points)], int64(seed*step+seed/9+step*3)%LineDirections)
			move = move.across(line)
			w.cross(line)
			checkVectorSize(t, move.shift)
			checkVectorSize(t, vector{w.shift[0].number(), w.shift[1].number()})
			checkVectorSize(t, move.place(points[(seed+step)%len(points)]))
		}
		if whole := (vector{w.shift[0].number(), w.shift[1].number()}); whole != move.shift || w.turned.right != move.right || w.turned.up != move.up {
			t.Fatalf("a walk has the motion %v and the shift %v, not %v", w.turned, whole, move)
		}
	}
	for i, m := range extremeMotions() {
		for dir := range int64(LineDirections) {
			other := matrixOf(m).across(directedLineAt(points[i%len(points)], dir))
			checkVectorSize(t, other.shift)
			if back := other.across(directedLineAt(points[i%len(points)], dir)); back != matrixOf(m) {
				t.Fatalf("there and back, %v becomes %v", m, back)
			}
		}
	}
}
