package tests

import (
	"math"
	"strings"
	"testing"

	"loop.example/g00857/impl"
)

func TestConstants(t *testing.T) {
	got := []int64{
		impl.OK, impl.ErrInvalid, impl.ErrRange, impl.ErrNotFound, impl.ErrExists, impl.ErrFull, impl.ErrState,
		impl.ErrGeometry, impl.ErrNotFlat, impl.ErrBlocked, impl.ErrBudget, impl.ErrSyntax, impl.ErrOrder,
	}
	for i, code := range got {
		if code != int64(i) {
			t.Errorf("error code %d is %d", i, code)
		}
	}
	if impl.MaxName != 12 || impl.MaxPart != 131072 || impl.MaxPower != 10 {
		t.Error("limits", impl.MaxName, impl.MaxPart, impl.MaxPower)
	}
}

func TestCodeName(t *testing.T) {
	names := strings.Fields("ok invalid range not-found exists full state geometry not-flat blocked budget syntax order")
	for code, name := range names {
		if got := impl.CodeName(int64(code)); got != name {
			t.Errorf("CodeName(%d) is %q, not %q", code, got, name)
		}
	}
	for _, code := range []int64{-1, 13, 256, 1 << 32, -1 << 32, math.MinInt64, math.MaxInt64} {
		if got := impl.CodeName(code); got != "" {
			t.Errorf("CodeName(%d) is %q", code, got)
		}
	}
}

func TestIsName(t *testing.T) {
	letters := "ABCDEFGHIJKLMNOPQRSTUVWXYZabcdefghijklmnopqrstuvwxyz"
	for c := range 256 {
		one := string([]byte{byte(c)})
		if got, want := impl.IsName(one), strings.Contains(letters, one); got != want {
			t.Errorf("IsName(%q) is %v", one, got)
		}
		if got, want := impl.IsName("a"+one+"z"), strings.Contains(letters+"0123456789_", one); got != want {
			t.Errorf("IsName(%q) is %v", "a"+one+"z", got)
		}
		if got, want := impl.IsName("z0_"+one), strings.Contains(letters+"0123456789_", one); got != want {
			t.Errorf("IsName(%q) is %v", "z0_"+one, got)
		}
	}
	for s, want := range map[string]bool{
		"": false, "a": true, "Z9_": true, "_a": false, "9a": false, "a b": false, "\u00e9": false, "a\u00e9": false,
		"abcdefghijkl": true, "abcdefghijklm": false, "a12345678901": true, "a123456789012": false, "a__________-": false,
		strings.Repeat("a", 268): false,
	} {
		if got := impl.IsName(s); got != want {
			t.Errorf("IsName(%q) is %v", s, got)
		}
	}
}

func TestValidNum(t *testing.T) {
	for _, x := range []impl.Num{
		{}, {A: 131072}, {A: -131072}, {B: 131072}, {B: -131072}, {A: 131072, B: -131072}, {A: 131072, B: 1, K: 10},
		{A: 1, B: -131072, K: 10}, {A: 1, K: 1}, {B: -1, K: 10}, {A: 2, B: 1, K: 1}, {A: 1, B: 2, K: 1}, {A: 2, B: 4},
	} {
		if !impl.ValidNum(x) {
			t.Errorf("ValidNum(%v) is false", x)
		}
	}
	for _, x := range invalidNums() {
		if impl.ValidNum(x) {
			t.Errorf("ValidNum(%v) is true", x)
		}
	}
	for _, x := range wildNums() {
		low, ok := impl.Num{}, x.K >= 0 && x.K <= 64
		if ok {
			low, ok = exactOf(x).valid()
		}
		if got := impl.ValidNum(x); got != (ok && low == x) {
			t.Errorf("ValidNum(%v) is %v", x, got)
		}
	}
}

func TestMakeNum(t *testing.T) {
	if x, ok := impl.MakeNum(6, 4, 3); !ok || x != (impl.Num{A: 3, B: 2, K: 2}) {
		t.Error("the example of MakeNum:", x, ok)
	}
	for _, v := range []struct {
		a, b, k int64
		want    impl.Num
		ok      bool
	}{
		{131072, -131072, 0, impl.Num{A: 131072, B: -131072}, true},
		{131073, 0, 0, impl.Num{}, false},
		{0, -131073, 0, impl.Num{}, false},
		{262144, 131074, 1, impl.Num{A: 131072, B: 65537}, true},
		{262146, 0, 1, impl.Num{}, false},
		{262144, 1, 1, impl.Num{}, false},
		{1, 0, 10, impl.Num{A: 1, K: 10}, true},
		{1, 0, 11, impl.Num{}, false},
		{2, 0, 11, impl.Num{A: 1, K: 10}, true},
		{0, 0, 0, impl.Num{}, true},
		{0, 0, 62, impl.Num{}, true},
		{0, 0, 63, impl.Num{}, false},
		{0, 0, -1, impl.Num{}, false},
		{1 << 62, -1 << 62, 62, impl.Num{A: 1, B: -1}, true},
		{1 << 52, 0, 62, impl.Num{A: 1, K: 10}, true},
		{1 << 51, 0, 62, impl.Num{}, false},
		{math.MinInt64, 0, 62, impl.Num{A: -2}, true},
		{0, math.MinInt64, 46, impl.Num{B: -131072}, true},
		{0, math.MinInt64, 45, impl.Num{}, false},
		{math.MinInt64, math.MaxInt64, 62, impl.Num{}, false},
		{1, 0, math.MaxInt64, impl.Num{}, false},
		{1, 0, math.MinInt64, impl.Num{}, false},
	} {
		if x, ok := impl.MakeNum(v.a, v.b, v.k); x != v.want || ok != v.ok {
			t.Errorf("MakeNum(%d, %d, %d) is %v, %v", v.a, v.b, v.k, x, ok)
		}
	}
	for _, x := range wildNums() {
		want, ok := impl.Num{}, x.K >= 0 && x.K <= 62
		if ok {
			want, ok = exactOf(x).valid()
		}
		if got, gotOk := impl.MakeNum(x.A, x.B, x.K); got != want || gotOk != ok {
			t.Errorf("MakeNum of %v is %v, %v, not %v, %v", x, got, gotOk, want, ok)
		}
	}
}

func TestArithmeticExamples(t *testing.T) {
	one := mustRead(t, "1")
	if x, ok := impl.MulNum(mustRead(t, "1+1r"), mustRead(t, "1-1r")); !ok || x != mustRead(t, "-1") {
		t.Error("the product of 1 + r and 1 - r:", x, ok)
	}
	if x, ok := impl.DivNum(one, mustRead(t, "1+1r")); !ok || x != mustRead(t, "-1+1r") {
		t.Error("the quotient of 1 and 1 + r:", x, ok)
	}
	if x, ok := impl.DivNum(one, mustRead(t, "3")); ok || x != (impl.Num{}) {
		t.Error("the quotient of 1 and 3:", x, ok)
	}
}

func TestArithmeticLimits(t *testing.T) {
	operations := map[string]func(x, y impl.Num) (impl.Num, bool){
		"+": impl.AddNum, "-": impl.SubNum, "*": impl.MulNum, "/": impl.DivNum,
	}
	for _, v := range []struct{ x, operation, y, want string }{
		{"131071", "+", "1", "131072"}, {"131072", "+", "1", ""}, {"131072r", "+", "1r", ""}, {"-131071r", "+", "-1r", "-131072r"},
		{"131071/1024", "+", "1/1024", "128"}, {"131072", "+", "1/2", ""}, {"65535", "+", "1/2", "131071/2"}, {"65536", "+", "1/2", ""},
		{"131072", "+", "131072", ""}, {"131072", "+", "-131072", "0"}, {"(131072+1r)/1024", "+", "-1r/1024", "128"},
		{"-131071", "-", "1", "-131072"}, {"-131072", "-", "1", ""}, {"-131072", "-", "-131072", "0"}, {"131072", "-", "-131072", ""},
		{"(1+131072r)/1024", "-", "1/1024", "128r"}, {"1/1024", "-", "1/1024", "0"}, {"1/1024", "-", "3/1024", "-1/512"},
		{"362", "*", "362", "131044"}, {"363", "*", "363", ""}, {"256", "*", "512", "131072"}, {"256", "*", "-512", "-131072"},
		{"256r", "*", "256r", "131072"}, {"257r", "*", "256r", ""}, {"131072r", "*", "1r", ""}, {"65536r", "*", "1r", "131072"},
		{"1/1024", "*", "1/2", ""}, {"1/1024", "*", "2", "1/512"}, {"1r/1024", "*", "1r", "1/512"}, {"1r/1024", "*", "1r/2", "1/1024"},
		{"1/1024", "*", "1r/2", ""}, {"1/32", "*", "1/32", "1/1024"}, {"131072", "*", "1/1024", "128"}, {"131072", "*", "131072", ""},
		{"114243+80782r", "*", "114243-80782r", "1"}, {"114243-80782r", "*", "114243-80782r", ""}, {"131072", "*", "0", "0"},
		{"1", "/", "0", ""}, {"0", "/", "0", ""}, {"0", "/", "3", "0"}, {"0", "/", "131072r", "0"}, {"1", "/", "1024", "1/1024"}, {"1", "/", "2048", ""},
		{"1", "/", "1/1024", "1024"}, {"128", "/", "1/1024", "131072"}, {"129", "/", "1/1024", ""}, {"1", "/", "1r/1024", "512r"},
		{"1", "/", "1r", "1r/2"}, {"1", "/", "1024r", ""}, {"1", "/", "512r", "1r/1024"}, {"131072", "/", "131072", "1"}, {"131072", "/", "131072r", "1r/2"},
		{"1", "/", "114243-80782r", "114243+80782r"}, {"1", "/", "114243+80782r", "114243-80782r"}, {"2", "/", "114243-80782r", ""},
		{"131072-131072r", "/", "1-1r", "131072"}, {"3", "/", "3+3r", "-1+1r"}, {"7", "/", "3+1r", "3-1r"}, {"1", "/", "3+1r", ""},
		{"131072+131072r", "/", "(131071+131071r)/1024", ""}, {"131072+131072r", "/", "-131072-131072r", "-1"}, {"3r", "/", "3", "1r"}, {"2+3r", "/", "3", ""}, {"3+2r", "/", "3", ""},
	} {
		want := impl.Num{}
		if v.want != "" {
			want = mustRead(t, v.want)
		}
		got, ok := operations[v.operation](mustRead(t, v.x), mustRead(t, v.y))
		if got != want || ok != (v.want != "") {
			t.Errorf("%s %s %s is %q, %v, not %q", v.x, v.operation, v.y, impl.NumText(got), ok, v.want)
		}
	}
}

func TestSignAndFloorExamples(t *testing.T) {
	if impl.SignNum(mustRead(t, "3-2r")) != 1 || impl.SignNum(mustRead(t, "7-5r")) != -1 || impl.FloorNum(mustRead(t, "7-5r")) != -1 {
		t.Error("the examples of SignNum and FloorNum")
	}
	for _, v := range []struct {
		x           string
		sign, floor int64
	}{
		{"0", 0, 0}, {"1", 1, 1}, {"-1", -1, -1}, {"1r", 1, 1}, {"-1r", -1, -2}, {"1/1024", 1, 0}, {"-1/1024", -1, -1}, {"-1r/1024", -1, -1},
		{"3/2", 1, 1}, {"-3/2", -1, -2}, {"114243-80782r", 1, 0}, {"-114243+80782r", -1, -1}, {"47321-33461r", -1, -1}, {"-47321+33461r", 1, 0},
		{"131072+131072r", 1, 316435}, {"-131072-131072r", -1, -316436}, {"131072-131072r", -1, -54292}, {"-131072+131072r", 1, 54291},
		{"(131071-131071r)/1024", -1, -54}, {"131071/1024", 1, 127}, {"-131071/1024", -1, -128}, {"2r", 1, 2}, {"-2r", -1, -3}, {"-1+1r", 1, 0},
	} {
		x := mustRead(t, v.x)
		if impl.SignNum(x) != v.sign || impl.FloorNum(x) != v.floor {
			t.Errorf("%s has the sign %d and the floor %d", v.x, impl.SignNum(x), impl.FloorNum(x))
		}
	}
}

func TestTextExamples(t *testing.T) {
	for s, want := range map[string]impl.Num{
		"-3": {A: -3}, "1r/2": {B: 1, K: 1}, "2-1r": {A: 2, B: -1}, "(1+3r)/4": {A: 1, B: 3, K: 2},
		"0": {}, "1r": {B: 1}, "-1r": {B: -1}, "1/1024": {A: 1, K: 10}, "-1r/1024": {B: -1, K: 10}, "-1-1r": {A: -1, B: -1},
		"(-131072-131071r)/1024": {A: -131072, B: -131071, K: 10}, "131072+131072r": {A: 131072, B: 131072}, "-131072r": {B: -131072},
	} {
		if got := impl.NumText(want); got != s {
			t.Errorf("NumText(%v) is %q, not %q", want, got, s)
		}
		if x, ok := impl.ReadNum(s); x != want || !ok {
			t.Errorf("ReadNum(%q) is %v, %v", s, x, ok)
		}
	}
}

func TestTextsThatAreNotCanonical(t *testing.T) {
	for _, s := range []string{
		"", " ", "r", "-r", "+r", "-", "+", "/", "()", "(r)", "-0", "+0", "00", "01", "-01", "+1", "1 ", " 1", "1\n", "1_0", "0x1", "1e1", "1.0",
		"0r", "-0r", "1+0r", "1-0r", "0+1r", "0-1r", "1+r", "1-r", "1+-1r", "1--1r", "1++1r", "1+01r", "01+1r", "1R", "1rr", "r1", "1r+1", "1r1", "1r+1r",
		"(1)", "(1+1r)", "((1+1r))/2", "(1)/2", "(1r)/2", "1+1r/2", "(1+1r/2", "1+1r)/2", "(1+1r)2", "(1+1r)/", "(1+1r)/2 ", "(1+1r)/2/2", "[1+1r]/2", "( 1+1r)/2",
		"1/", "/2", "1/0", "1/1", "1/-2", "1/+2", "1/02", "1/3", "1/6", "1/2048", "1/2r", "1r/1", "1/2/2", "1//2", "2/2", "2/4", "0/2", "0r/2", "(2+2r)/2", "(2+4r)/8",
		"1/9223372036854775807", "1/-9223372036854775808", "1/9223372036854775808", "1/4611686018427387904", "1/18446744073709551616",
		"131073", "-131073", "131073r", "-131073r", "131073+1r", "1-131073r", "(1+131073r)/2", "131073/1024", "9223372036854775807", "-9223372036854775808", "9223372036854775808",
		"18446744073709551617", "18446744073709551617r", "1+18446744073709551617r", "1\x00", "\xff", "\u0661", "\u22121",
	} {
		if x, ok := impl.ReadNum(s); ok || x != (impl.Num{}) {
			t.Errorf("ReadNum(%q) is %v, %v", s, x, ok)
		}
		if _, ok := textOracle(s); ok {
			t.Errorf("the oracle accepts %q", s)
		}
	}
}

func TestInvalidNumbersAreRejected(t *testing.T) {
	for _, bad := range invalidNums() {
		if impl.SignNum(bad) != 0 || impl.FloorNum(bad) != 0 || impl.NumText(bad) != "" {
			t.Errorf("%v has a sign, a floor or a text", bad)
		}
		for _, good := range []impl.Num{{}, {A: 1}, {A: 5, B: -3, K: 1}, {A: 131072}} {
			for _, pair := range [][2]impl.Num{{bad, good}, {good, bad}, {bad, bad}} {
				checkRejected(t, pair[0], pair[1])
			}
		}
	}
}

func checkRejected(t *testing.T, x, y impl.Num) {
	t.Helper()
	if impl.CompareNum(x, y) != 0 {
		t.Errorf("CompareNum(%v, %v) is not 0", x, y)
	}
	for i, operation := range []func(x, y impl.Num) (impl.Num, bool){impl.AddNum, impl.SubNum, impl.MulNum, impl.DivNum} {
		if got, ok := operation(x, y); ok || got != (impl.Num{}) {
			t.Errorf("operation %d of %v and %v is %v, %v", i, x, y, got, ok)
		}
	}
}
