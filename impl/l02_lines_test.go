package impl

import (
	"math/big"
	"testing"
)

// The exported functions compare and return only results; these tests check that the numbers on the
// way to them are exact and as small as the comment of wide says.

// bigParts returns A and B of a number as fractions.
func bigParts(x Num) [2]*big.Rat {
	power := new(big.Int).Lsh(big.NewInt(1), uint(x.K))
	return [2]*big.Rat{
		new(big.Rat).SetFrac(big.NewInt(x.A), power),
		new(big.Rat).SetFrac(big.NewInt(x.B), power),
	}
}

func sameParts(x, y [2]*big.Rat) bool {
	return x[0].Cmp(y[0]) == 0 && x[1].Cmp(y[1]) == 0
}

func bigSum(x, y [2]*big.Rat) [2]*big.Rat {
	return [2]*big.Rat{new(big.Rat).Add(x[0], y[0]), new(big.Rat).Add(x[1], y[1])}
}

func bigProduct(x, y [2]*big.Rat) [2]*big.Rat {
	product := func(i, j int, factor int64) *big.Rat {
		p := new(big.Rat).Mul(x[i], y[j])
		return p.Mul(p, big.NewRat(factor, 1))
	}
	return [2]*big.Rat{
		new(big.Rat).Add(product(0, 0, 1), product(1, 1, 2)),
		new(big.Rat).Add(product(0, 1, 1), product(1, 0, 1)),
	}
}

// wideExamples are numbers with parts of nearly 2^40 and all K.
func wideExamples() []wide {
	var list []wide
	for _, a := range []int64{0, 1, -1, 1<<40 - 1, 1 - 1<<40, 731094726443, -3 << 38} {
		for _, b := range []int64{0, 1, 1<<40 - 1, 1 - 1<<40, -516961907519} {
			for k := int64(0); k <= 14; k += 2 {
				list = append(list, wide{Num{A: a, B: b, K: k}.lowest()})
			}
		}
	}
	return list
}

func TestWideNumbersAreExact(t *testing.T) {
	for _, x := range wideExamples() {
		for _, y := range wideExamples() {
			px, py := bigParts(x.Num), bigParts(y.Num)
			sum, difference := x.plus(y), x.minus(y)
			if !sameParts(bigParts(sum.Num), bigSum(px, py)) || !sameParts(bigSum(bigParts(difference.Num), py), px) {
				t.Fatalf("%v and %v have the sum %v and the difference %v", x, y, sum, difference)
			}
			if sum.Num != sum.lowest() || difference.Num != difference.lowest() {
				t.Fatalf("%v or %v is not in lowest terms", sum, difference)
			}
		}
	}
}

// vectorProducts returns all coordinates and products of vectors of directions.
func vectorProducts() []wide {
	var list []wide
	for d := range int64(Directions) {
		v := directionVector(d)
		list = append(list, v[0], v[1])
		for e := range int64(Directions) {
			list = append(list, v.dot(directionVector(e)), v.cross(directionVector(e)))
		}
	}
	return list
}

func TestProductsOfVectorsMultiplyAndDivide(t *testing.T) {
	for _, y := range vectorProducts() {
		for _, x := range wideExamples() {
			product := x.times(y)
			if !sameParts(bigParts(product.Num), bigProduct(bigParts(x.Num), bigParts(y.Num))) {
				t.Fatalf("the product of %v and %v is %v", x, y, product)
			}
			if y == (wide{}) {
				continue
			}
			quotient := x.over(y)
			if !sameParts(bigProduct(bigParts(quotient.Num), bigParts(y.Num)), bigParts(x.Num)) || quotient.Num != quotient.lowest() {
				t.Fatalf("the quotient of %v and %v is %v", x, y, quotient)
			}
		}
	}
}

// extremePoints have coordinates with the greatest parts, whole ones and such with the greatest K.
func extremePoints() []vector {
	parts := []Num{
		{A: MaxPart, B: MaxPart}, {A: MaxPart, B: -MaxPart}, {A: -MaxPart, B: MaxPart}, {A: -MaxPart, B: -MaxPart},
		{A: MaxPart - 1, B: MaxPart, K: MaxPower}, {A: 1 - MaxPart, B: MaxPart - 1, K: MaxPower},
	}
	var list []vector
	for _, x := range parts {
		for _, y := range parts {
			list = append(list, vector{{x}, {y}})
		}
	}
	return list
}

func checkSize(t *testing.T, x wide) {
	t.Helper()
	if absolute(x.A) >= 1<<40 || absolute(x.B) >= 1<<40 || x.K < 0 || x.K > 14 {
		t.Fatalf("the number %v is too large", x)
	}
}

func TestWideNumbersStaySmall(t *testing.T) {
	points := extremePoints()
	for i, p := range points {
		for j := range int64(LineDirections * LineDirections) {
			a, b := directedLineAt(p, j%LineDirections), directedLineAt(points[(i*7+int(j))%len(points)], j/LineDirections)
			if a.dir == b.dir {
				continue
			}
			meet := a.meet(b)
			mirrored := a.reflect(b.foot())
			for _, q := range points {
				c := directedLineAt(q, j%5+1)
				checkSize(t, c.height(meet))
				checkSize(t, c.height(p))
			}
			for _, x := range []wide{a.off, meet[0], meet[1], mirrored[0], mirrored[1]} {
				checkSize(t, x)
			}
			if a.side(meet) != 0 || b.side(meet) != 0 {
				t.Fatalf("%v is not the common point of %v and %v", meet, a, b)
			}
		}
	}
}
