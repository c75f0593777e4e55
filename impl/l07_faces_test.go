package impl

import (
	"math/big"
	"math/bits"
	"slices"
	"testing"
)

// The search never has more faces waiting than there are slots; these tests check that the slots are
// used again, and that the first face is taken first.

func TestQueueUsesItsSlotsAgain(t *testing.T) {
	for size := 1; size <= 5; size++ {
		q := queue{slots: make([]int64, size)}
		next, last := int64(0), int64(0)
		for round := range 40 {
			for range round%size + 1 {
				if q.count < size {
					q.put(last)
					last++
				}
			}
			for range round % 3 {
				if q.count == 0 {
					break
				}
				if got := q.take(); got != next {
					t.Fatalf("with %d slots, %d is taken instead of %d", size, got, next)
				}
				next++
			}
			if q.count != int(last-next) {
				t.Fatalf("with %d slots, %d faces are waiting instead of %d", size, q.count, last-next)
			}
		}
	}
}

// Areas are too large for the parts of a number long before they are too large for an int64, so the
// exported function does not show whether they are exact.

func bigDifference(x, y [2]*big.Rat) [2]*big.Rat {
	return [2]*big.Rat{new(big.Rat).Sub(x[0], y[0]), new(big.Rat).Sub(x[1], y[1])}
}

func bigDoubleArea(ring []vector) [2]*big.Rat {
	sum := bigParts(Num{})
	for i, p := range ring {
		q := ring[(i+1)%len(ring)]
		down := bigProduct(bigParts(p[0].Num), bigParts(q[1].Num))
		up := bigProduct(bigParts(p[1].Num), bigParts(q[0].Num))
		sum = bigSum(sum, bigDifference(down, up))
	}
	return sum
}

// extremeRings go through the farthest points, some of them again and again so that all products have
// the same sign, and through points with the greatest K, by which the sum is divided in the end.
func extremeRings() [][]vector {
	points := extremePoints()
	around := []vector{points[0], points[18], points[21], points[3]}
	fine := []vector{points[29], points[34]}
	rings := [][]vector{slices.Repeat(around, 4)}
	for i := range 4 {
		turned := slices.Concat(around[i:], around[:i])
		rings = append(rings, slices.Concat(turned, turned, turned, turned[:2], fine), slices.Concat(fine, turned, turned, turned, turned[:2]))
	}
	for seed := range 400 {
		var ring []vector
		for i := range MaxCorners - seed%14 {
			ring = append(ring, points[(seed*seed+i*(seed%35+1))%len(points)])
		}
		rings = append(rings, ring)
	}
	return rings
}

func TestDoubleAreasAreExact(t *testing.T) {
	greatest := 0
	for _, ring := range extremeRings() {
		got, want := doubleArea(ring), bigDoubleArea(ring)
		slices.Reverse(ring)
		back := doubleArea(ring)
		if !sameParts(bigParts(got.Num), want) || !sameParts(bigParts(back.Num), bigDifference(bigParts(Num{}), want)) {
			t.Fatalf("twice the area of %v is %v, and %v in reverse", ring, back, got)
		}
		greatest = max(greatest, bits.Len64(absolute(got.A)))
	}
	if greatest < 60 {
		t.Errorf("the greatest part has only %d bits", greatest)
	}
}
