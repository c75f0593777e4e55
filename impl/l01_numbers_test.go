package impl

import (
	"math"
	"math/big"
	"testing"
)

// The exported functions compare only parts of a moderate size; these tests check that the
// functions below them are exact for all parts.

var largeParts = []int64{
	math.MinInt64, math.MinInt64 + 1, -1 << 62, -6521908912666391106, -6521908912666391107, -1, 0, 1, 2, 3,
	1<<31 - 1, 1 << 31, 1 << 32, 3037000499, 3037000500, 4294967296, 1 << 62,
	6521908912666391106, 6521908912666391107, math.MaxInt64 - 1, math.MaxInt64,
}

// signOracle returns the sign of a + b r by means of a |a| + 2 b |b|, which has the same sign.
func signOracle(a, b int64) int64 {
	part := func(v int64) *big.Int {
		return new(big.Int).Mul(big.NewInt(v), new(big.Int).Abs(big.NewInt(v)))
	}
	double := new(big.Int).Lsh(part(b), 1)
	return int64(new(big.Int).Add(part(a), double).Sign())
}

func TestSignIsExactForAllParts(t *testing.T) {
	for _, a := range largeParts {
		for _, b := range largeParts {
			if got := (Num{A: a, B: b}).sign(); got != signOracle(a, b) {
				t.Errorf("the sign of %d + %d r is %d", a, b, got)
			}
		}
	}
}

func TestSignIsExactForConvergents(t *testing.T) {
	for a, b := int64(1), int64(1); a < 1<<61; a, b = a+2*b, a+b {
		for _, x := range []Num{{A: a, B: -b}, {A: -a, B: b}, {A: a - 1, B: -b}, {A: a + 1, B: -b}} {
			if x.sign() != signOracle(x.A, x.B) {
				t.Errorf("the sign of %v is %d", x, x.sign())
			}
		}
	}
}

func TestSquareRoot(t *testing.T) {
	for _, root := range []uint64{1, 2, 3, 185363, 1 << 31, 1<<32 - 1} {
		square := root * root
		if squareRoot(square) != root || squareRoot(square-1) != root-1 || squareRoot(square+1) != root {
			t.Errorf("the square root of %d is %d", square, squareRoot(square))
		}
	}
	if squareRoot(0) != 0 || squareRoot(math.MaxUint64) != 1<<32-1 {
		t.Error("the square roots of the least and the greatest number")
	}
}

func TestAbsolute(t *testing.T) {
	if absolute(int64(math.MinInt64)) != 1<<63 || absolute(int8(-128)) != 128 || absolute(-5) != 5 || absolute(int64(7)) != 7 || absolute(0) != 0 {
		t.Error("absolute values")
	}
}
