package tests

import (
	"fmt"
	"strings"
	"testing"

	"loop.example/g00857/impl"
)

// Promise 1: every function returns for all arguments, modifies none, and is repeatable. The
// arguments of chapter 1 are values, so that only returning and repeating can fail.

// unaryResults describes all results of chapter 1 for one number.
func unaryResults(x impl.Num) string {
	made, ok := impl.MakeNum(x.A, x.B, x.K)
	return fmt.Sprint(impl.CodeName(x.A), impl.ValidNum(x), made, ok, impl.SignNum(x), impl.FloorNum(x), impl.NumText(x))
}

// binaryResult is what chapter 1 returns for two numbers, without the text forms.
type binaryResult struct {
	sum, difference, product, quotient         impl.Num
	sumOk, differenceOk, productOk, quotientOk bool
	order                                      int64
}

func binaryResults(x, y impl.Num) binaryResult {
	r := binaryResult{order: impl.CompareNum(x, y)}
	r.sum, r.sumOk = impl.AddNum(x, y)
	r.difference, r.differenceOk = impl.SubNum(x, y)
	r.product, r.productOk = impl.MulNum(x, y)
	r.quotient, r.quotientOk = impl.DivNum(x, y)
	return r
}

func TestPromise1NumbersReturnForAllArguments(t *testing.T) {
	partners := append(invalidNums(), someNums()[:40]...)
	for i, x := range wildNums() {
		if unaryResults(x) != unaryResults(x) {
			t.Errorf("the results for %v differ", x)
		}
		y := partners[i%len(partners)]
		for _, pair := range [][2]impl.Num{{x, y}, {y, x}, {x, x}} {
			first := binaryResults(pair[0], pair[1])
			if first != binaryResults(pair[0], pair[1]) {
				t.Errorf("the results for %v differ", pair)
			}
			if !(impl.ValidNum(pair[0]) && impl.ValidNum(pair[1])) && first != (binaryResult{}) {
				t.Errorf("the results for %v are %v", pair, first)
			}
		}
	}
}

func TestPromise1TextsReturnForAllArguments(t *testing.T) {
	long := []string{"(", ")", "/", "r", "+", "-", "0", "9", "1+", "(1+1r)/2", "\xff", "\u221a", "a_"}
	for _, s := range long {
		for _, count := range []int{1, 2, 3, 25, 1000, 100000} {
			text := strings.Repeat(s, count)
			x, ok := impl.ReadNum(text)
			again, againOk := impl.ReadNum(text)
			if x != again || ok != againOk || !ok && x != (impl.Num{}) {
				t.Errorf("ReadNum of %d times %q is %v, %v and %v, %v", count, s, x, ok, again, againOk)
			}
			if impl.IsName(text) != impl.IsName(text) {
				t.Errorf("IsName of %d times %q differs", count, s)
			}
		}
	}
}

// Promise 2: numbers form a ring with exact order; sums, products, quotients, signs and floors are
// consistent, and texts are read back.

func TestPromise2ResultsAreExact(t *testing.T) {
	list := someNums()
	for _, x := range list {
		for _, y := range list {
			checkPair(t, x, y)
		}
	}
}

func checkPair(t *testing.T, x, y impl.Num) {
	t.Helper()
	ex, ey := exactOf(x), exactOf(y)
	want := binaryResult{order: ex.sum(ey.negative()).sign()}
	want.sum, want.sumOk = ex.sum(ey).valid()
	want.difference, want.differenceOk = ex.sum(ey.negative()).valid()
	want.product, want.productOk = ex.product(ey).valid()
	if y != (impl.Num{}) {
		want.quotient, want.quotientOk = ex.product(ey.inverse()).valid()
	}
	if got := binaryResults(x, y); got != want {
		t.Errorf("for %v and %v the results are %v, not %v", x, y, got, want)
	}
}

func TestPromise2SignsAndFloorsAreExact(t *testing.T) {
	for _, x := range someNums() {
		e := exactOf(x)
		if impl.SignNum(x) != e.sign() || impl.FloorNum(x) != e.floor().Int64() {
			t.Errorf("%v has the sign %d and the floor %d", x, impl.SignNum(x), impl.FloorNum(x))
		}
	}
	for b := int64(-2000); b <= 2000; b++ {
		for a := -b*1414/1000 - 2; a <= -b*1415/1000+2; a++ {
			x, e := impl.Num{A: a, B: b}, exactParts(a, b, 0)
			if impl.SignNum(x) != e.sign() || impl.FloorNum(x) != e.floor().Int64() {
				t.Errorf("%v has the sign %d and the floor %d", x, impl.SignNum(x), impl.FloorNum(x))
			}
		}
	}
}

func TestPromise2RingLaws(t *testing.T) {
	list := someNums()
	for i, x := range list {
		for j, y := range list {
			checkInverses(t, x, y)
			checkLaws(t, x, y, list[(i*7+j*3)%len(list)])
		}
		sum, sumOk := impl.AddNum(x, impl.Num{})
		product, productOk := impl.MulNum(x, impl.Num{A: 1})
		quotient, quotientOk := impl.DivNum(x, impl.Num{A: 1})
		if !sumOk || !productOk || !quotientOk || sum != x || product != x || quotient != x {
			t.Errorf("0 or 1 is not neutral for %v", x)
		}
	}
}

// checkInverses checks that a difference undoes a sum and a quotient a product, in both directions.
func checkInverses(t *testing.T, x, y impl.Num) {
	t.Helper()
	r := binaryResults(x, y)
	if r.sumOk {
		checkNum(t, "x + y - y", x, impl.SubNum, r.sum, y)
	}
	if r.differenceOk {
		checkNum(t, "x - y + y", x, impl.AddNum, r.difference, y)
	}
	if r.productOk && y != (impl.Num{}) {
		checkNum(t, "x y / y", x, impl.DivNum, r.product, y)
	}
	if r.quotientOk {
		checkNum(t, "x / y y", x, impl.MulNum, r.quotient, y)
	}
	if r.differenceOk && impl.SignNum(r.difference) != r.order || impl.CompareNum(y, x) != -r.order || (r.order == 0) != (x == y) {
		t.Errorf("the order of %v and %v is %d", x, y, r.order)
	}
	if r.productOk && impl.SignNum(r.product) != impl.SignNum(x)*impl.SignNum(y) {
		t.Errorf("the sign of the product of %v and %v is %d", x, y, impl.SignNum(r.product))
	}
}

func checkNum(t *testing.T, law string, want impl.Num, operation func(x, y impl.Num) (impl.Num, bool), x, y impl.Num) {
	t.Helper()
	if got, ok := operation(x, y); !ok || got != want {
		t.Errorf("%s is %v, %v, not %v, with y %v", law, got, ok, want, y)
	}
}

// checkLaws checks that sums and products commute, and associate and distribute where all exist.
func checkLaws(t *testing.T, x, y, z impl.Num) {
	t.Helper()
	xy, yx, yz := binaryResults(x, y), binaryResults(y, x), binaryResults(y, z)
	if xy.sum != yx.sum || xy.sumOk != yx.sumOk || xy.product != yx.product || xy.productOk != yx.productOk {
		t.Errorf("%v and %v do not commute", x, y)
	}
	left, leftOk := impl.AddNum(xy.sum, z)
	right, rightOk := impl.AddNum(x, yz.sum)
	if xy.sumOk && yz.sumOk && (left != right || leftOk != rightOk) {
		t.Errorf("the sums of %v, %v and %v differ", x, y, z)
	}
	left, leftOk = impl.MulNum(xy.product, z)
	right, rightOk = impl.MulNum(x, yz.product)
	if xy.productOk && yz.productOk && (left != right || leftOk != rightOk) {
		t.Errorf("the products of %v, %v and %v differ", x, y, z)
	}
	xz := binaryResults(x, z)
	left, leftOk = impl.MulNum(x, yz.sum)
	right, rightOk = impl.AddNum(xy.product, xz.product)
	if yz.sumOk && xy.productOk && xz.productOk && (left != right || leftOk != rightOk) {
		t.Errorf("%v does not distribute over %v and %v", x, y, z)
	}
}

func TestPromise2FloorsAndOrderAgree(t *testing.T) {
	for _, x := range someNums() {
		floor, ok := impl.MakeNum(impl.FloorNum(x), 0, 0)
		if !ok {
			continue // the floor of 131072 + 131072 r is no valid number
		}
		above, aboveOk := impl.AddNum(floor, impl.Num{A: 1})
		if impl.CompareNum(floor, x) == 1 || aboveOk && impl.CompareNum(above, x) != 1 {
			t.Errorf("the floor of %v is %d", x, floor.A)
		}
	}
}

func TestPromise2TextsAreReadBack(t *testing.T) {
	seen := map[string]impl.Num{}
	for _, x := range someNums() {
		s := impl.NumText(x)
		if got, ok := impl.ReadNum(s); !ok || got != x {
			t.Errorf("%q of %v is read as %v, %v", s, x, got, ok)
		}
		if got, ok := textOracle(s); !ok || got != x {
			t.Errorf("%q is not the text form of %v", s, x)
		}
		if other, found := seen[s]; found && other != x {
			t.Errorf("%v and %v have the text %q", x, other, s)
		}
		seen[s] = x
		forEachChange(s, "0124789+-r/() ", func(s string) { checkText(t, s) })
	}
}

func checkText(t *testing.T, s string) {
	t.Helper()
	want, wantOk := textOracle(s)
	if got, ok := impl.ReadNum(s); got != want || ok != wantOk {
		t.Errorf("ReadNum(%q) is %v, %v, not %v, %v", s, got, ok, want, wantOk)
	}
}

func TestPromise2ShortTexts(t *testing.T) {
	level := []string{""}
	for range 5 {
		var next []string
		for _, s := range level {
			for _, c := range "0124+-r/()" {
				next = append(next, s+string(c))
			}
		}
		for _, s := range next {
			checkText(t, s)
		}
		level = next
	}
}
