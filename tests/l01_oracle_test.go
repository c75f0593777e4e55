package tests

import (
	"math"
	"math/big"
	"regexp"
	"slices"
	"testing"

	"loop.example/g00857/impl"
)

// exact is the number a + b r as a pair of fractions without limits. It serves to check results
// in another way than the program computes them.
type exact struct {
	a *big.Rat
	b *big.Rat
}

func exactOf(x impl.Num) exact {
	return exactParts(x.A, x.B, x.K)
}

// exactParts returns (a + b r) / 2^k; k is at least 0.
func exactParts(a, b, k int64) exact {
	power := new(big.Int).Lsh(big.NewInt(1), uint(k))
	return exact{
		new(big.Rat).SetFrac(big.NewInt(a), power),
		new(big.Rat).SetFrac(big.NewInt(b), power),
	}
}

func ratSum(x, y *big.Rat) *big.Rat { return new(big.Rat).Add(x, y) }

func ratProduct(x, y *big.Rat) *big.Rat { return new(big.Rat).Mul(x, y) }

func (x exact) sum(y exact) exact {
	return exact{ratSum(x.a, y.a), ratSum(x.b, y.b)}
}

func (x exact) negative() exact {
	return exact{new(big.Rat).Neg(x.a), new(big.Rat).Neg(x.b)}
}

func (x exact) product(y exact) exact {
	two := big.NewRat(2, 1)
	return exact{
		ratSum(ratProduct(x.a, y.a), ratProduct(two, ratProduct(x.b, y.b))),
		ratSum(ratProduct(x.a, y.b), ratProduct(x.b, y.a)),
	}
}

// inverse returns 1 / x; x is not 0.
func (x exact) inverse() exact {
	conjugate := exact{x.a, new(big.Rat).Neg(x.b)}
	scale := new(big.Rat).Inv(x.product(conjugate).a)
	return exact{ratProduct(conjugate.a, scale), ratProduct(conjugate.b, scale)}
}

// floor returns the greatest integer that is at most x.
func (x exact) floor() *big.Int {
	p := new(big.Int).Mul(x.a.Num(), x.b.Denom())
	q := new(big.Int).Mul(x.b.Num(), x.a.Denom())
	scale := new(big.Int).Mul(x.a.Denom(), x.b.Denom())
	root := new(big.Int).Sqrt(new(big.Int).Lsh(new(big.Int).Mul(q, q), 1))
	if q.Sign() < 0 {
		root.Neg(root.Add(root, big.NewInt(1)))
	}
	return new(big.Int).Div(root.Add(root, p), scale) // Div rounds down for a positive divisor
}

func (x exact) sign() int64 {
	if x.b.Sign() == 0 {
		return int64(x.a.Sign())
	}
	if x.floor().Sign() < 0 {
		return -1
	}
	return 1
}

// valid returns the valid representation of x, trying one K after the other.
func (x exact) valid() (impl.Num, bool) {
	for k := int64(0); k <= impl.MaxPower; k++ {
		scale := new(big.Rat).SetInt64(1 << k)
		a, b := ratProduct(x.a, scale), ratProduct(x.b, scale)
		if !a.IsInt() || !b.IsInt() {
			continue
		}
		if !isPart(a.Num()) || !isPart(b.Num()) {
			return impl.Num{}, false
		}
		return impl.Num{A: a.Num().Int64(), B: b.Num().Int64(), K: k}, true
	}
	return impl.Num{}, false
}

func isPart(n *big.Int) bool {
	return new(big.Int).Abs(n).Cmp(big.NewInt(impl.MaxPart)) <= 0
}

// The text forms of chapter 1, whose limits and lowest terms are checked afterwards: one part, with
// or without a divisor; two parts without one; two parts with one.
var textForms = []*regexp.Regexp{
	regexp.MustCompile(`^(?P<a>0|-?[1-9][0-9]*)(?:/(?P<power>[0-9]+))?$`),
	regexp.MustCompile(`^(?P<b>-?[1-9][0-9]*)r(?:/(?P<power>[0-9]+))?$`),
	regexp.MustCompile(`^(?P<a>-?[1-9][0-9]*)(?P<b>[+-][1-9][0-9]*)r$`),
	regexp.MustCompile(`^\((?P<a>-?[1-9][0-9]*)(?P<b>[+-][1-9][0-9]*)r\)/(?P<power>[0-9]+)$`),
}

var powerTexts = []string{"", "2", "4", "8", "16", "32", "64", "128", "256", "512", "1024"}

// textOracle returns the number with a text form by the grammar of chapter 1.
func textOracle(s string) (impl.Num, bool) {
	for _, form := range textForms {
		match := form.FindStringSubmatch(s)
		if match == nil {
			continue
		}
		field := map[string]string{}
		for i, name := range form.SubexpNames() {
			field[name] = match[i]
		}
		a, aOk := partOracle(field["a"])
		b, bOk := partOracle(field["b"])
		k := slices.Index(powerTexts, field["power"])
		if !aOk || !bOk || k < 0 || k > 0 && a%2 == 0 && b%2 == 0 {
			return impl.Num{}, false
		}
		return impl.Num{A: a, B: b, K: int64(k)}, true
	}
	return impl.Num{}, false
}

// partOracle reads A or B; a part that is not in the text is 0.
func partOracle(s string) (int64, bool) {
	if s == "" {
		return 0, true
	}
	n, ok := new(big.Int).SetString(s, 10)
	if !ok || !isPart(n) {
		return 0, false
	}
	return n.Int64(), true
}

// extremes are values of a field at and beyond all limits.
func extremes() []int64 {
	return []int64{
		math.MinInt64, math.MinInt64 + 1, math.MinInt32, -impl.MaxPart - 1, -impl.MaxPart, -2, -1,
		0, 1, 2, 3, impl.MaxPower, impl.MaxPower + 1, 62, 63, 64, 65, impl.MaxPart, impl.MaxPart + 1,
		math.MaxInt32, 1 << 62, math.MaxInt64 - 1, math.MaxInt64,
	}
}

// wildNums are numbers with all combinations of extreme fields, most of them invalid.
func wildNums() []impl.Num {
	var list []impl.Num
	for _, a := range extremes() {
		for _, b := range extremes() {
			for _, k := range extremes() {
				list = append(list, impl.Num{A: a, B: b, K: k})
			}
		}
	}
	return list
}

// invalidNums are numbers that break one condition of validity each.
func invalidNums() []impl.Num {
	list := []impl.Num{{K: 1}, {K: 10}, {A: 2, K: 1}, {B: 2, K: 1}, {A: 2, B: 4, K: 1}, {A: 512, B: -256, K: 10}}
	for _, v := range []int64{math.MinInt64, math.MinInt64 + 1, -impl.MaxPart - 1, impl.MaxPart + 1, math.MaxInt64} {
		list = append(list, impl.Num{A: v}, impl.Num{B: v}, impl.Num{A: v, B: 1, K: 1}, impl.Num{A: 1, B: v, K: 1})
	}
	for _, k := range []int64{math.MinInt64, -62, -1, impl.MaxPower + 1, 62, 63, 64, math.MaxInt64} {
		list = append(list, impl.Num{A: 1, K: k}, impl.Num{B: 1, K: k}, impl.Num{K: k})
	}
	return list
}

// someNums are valid numbers: small ones, the limits, near ties of A and B r, and a spread of others.
func someNums() []impl.Num {
	list := []impl.Num{
		{}, {A: 1}, {A: -1}, {A: 2}, {A: 3}, {A: -3}, {A: 1, K: 1}, {A: -3, K: 1}, {A: 1, K: 10}, {A: -1, K: 10},
		{B: 1}, {B: -1}, {B: 1, K: 1}, {B: -1, K: 10}, {B: 100}, {A: 1, B: 1}, {A: 1, B: -1}, {A: -1, B: 1}, {A: -1, B: -1},
		{A: 3, B: -2}, {A: 7, B: -5}, {A: -7, B: 5}, {A: 99, B: -70}, {A: 1, B: 3, K: 2}, {A: 4, B: 2}, {A: 2, B: -1},
		{A: 114243, B: -80782}, {A: -114243, B: 80782}, {A: 114243, B: 80782}, {A: 47321, B: -33461, K: 10}, {A: -47321, B: 33461, K: 3},
		{A: 131072}, {A: -131072}, {B: 131072}, {B: -131072}, {A: 131072, B: 131072}, {A: -131072, B: -131072},
		{A: 131072, B: -131072}, {A: 131071, B: 131071, K: 10}, {A: -131071, K: 10}, {A: 131072, B: 1, K: 10}, {A: 1, B: -131072, K: 10},
		{A: 131071}, {A: 1024}, {B: 1024}, {A: 128}, {A: 64, B: 64}, {A: 512, B: -256}, {A: 362}, {A: 256, B: 181},
	}
	state := uint64(22)
	for len(list) < 130 {
		x := impl.Num{A: nextRandom(&state, 1<<18) - 1<<17, B: nextRandom(&state, 1<<18) - 1<<17, K: nextRandom(&state, 11)}
		if len(list)%2 == 0 {
			x.A, x.B = x.A%40, x.B%40
		}
		if y, ok := exactOf(x).valid(); ok {
			list = append(list, y)
		}
	}
	return list
}

// nextRandom returns a number from 0 to n - 1, the same ones in every run.
func nextRandom(state *uint64, n uint64) int64 {
	*state = *state*6364136223846793005 + 1442695040888963407
	return int64(*state >> 33 % n)
}

// mustRead returns the number with a text form.
func mustRead(t *testing.T, s string) impl.Num {
	t.Helper()
	x, ok := impl.ReadNum(s)
	if !ok {
		t.Fatalf("ReadNum(%q) is false", s)
	}
	return x
}
