package impl

import (
	"cmp"
	"math/bits"
	"strconv"
	"strings"
)

// Error codes and limits.
const (
	OK          = 0
	ErrInvalid  = 1
	ErrRange    = 2
	ErrNotFound = 3
	ErrExists   = 4
	ErrFull     = 5
	ErrState    = 6
	ErrGeometry = 7
	ErrNotFlat  = 8
	ErrBlocked  = 9
	ErrBudget   = 10
	ErrSyntax   = 11
	ErrOrder    = 12

	MaxName  = 12
	MaxPart  = 131072
	MaxPower = 10
)

// maxShift is the greatest exponent that MakeNum accepts: 2^62 is still an int64.
const maxShift = 62

// codeNames holds the name of each error code at the index of the code.
var codeNames = [...]string{"ok", "invalid", "range", "not-found", "exists", "full", "state", "geometry", "not-flat", "blocked", "budget", "syntax", "order"}

// Num is the number (A + B r) / 2^K, where r is the square root of 2.
type Num struct {
	A int64
	B int64
	K int64
}

// signed is the constraint of absolute.
type signed interface {
	~int | ~int8 | ~int16 | ~int32 | ~int64
}

// absolute returns the absolute value of v. The result is unsigned, because the least value of a
// signed type has an absolute value that the type does not contain.
func absolute[T signed](v T) uint64 {
	if v < 0 {
		return -uint64(v)
	}
	return uint64(v)
}

// CodeName returns the name of an error code.
func CodeName(code int64) string {
	if code < 0 || code >= int64(len(codeNames)) {
		return ""
	}
	return codeNames[code]
}

// IsName reports whether a string is a name.
func IsName(s string) bool {
	if len(s) < 1 || len(s) > MaxName || !isLetter(s[0]) {
		return false
	}
	for i := 1; i < len(s); i++ {
		if !isLetter(s[i]) && !isDigit(s[i]) && s[i] != '_' {
			return false
		}
	}
	return true
}

func isLetter(c byte) bool {
	return 'A' <= c && c <= 'Z' || 'a' <= c && c <= 'z'
}

func isDigit(c byte) bool {
	return '0' <= c && c <= '9'
}

// valid reports whether x is within the limits and in lowest terms.
func (x Num) valid() bool {
	return x.withinLimits() && x == x.lowest()
}

func (x Num) withinLimits() bool {
	return x.K >= 0 && x.K <= MaxPower && absolute(x.A) <= MaxPart && absolute(x.B) <= MaxPart
}

// lowest returns the same number with the least K of at least 0. The K of x must be 0 to maxShift.
func (x Num) lowest() Num {
	common := int64(bits.TrailingZeros64(uint64(x.A | x.B)))
	shift := min(x.K, common)
	return Num{A: x.A >> shift, B: x.B >> shift, K: x.K - shift}
}

// limited returns the valid representation of x, if there is one. The K of x must be 0 to maxShift.
func (x Num) limited() (Num, bool) {
	low := x.lowest()
	if !low.withinLimits() {
		return Num{}, false
	}
	return low, true
}

// negated returns -x, which is valid if x is.
func (x Num) negated() Num {
	return Num{A: -x.A, B: -x.B, K: x.K}
}

// plus returns the sum, which need not be in lowest terms or within the limits. Neither need x and y,
// as long as no part overflows; this also applies to times and over.
func (x Num) plus(y Num) Num {
	k := max(x.K, y.K)
	return Num{
		A: x.A<<(k-x.K) + y.A<<(k-y.K),
		B: x.B<<(k-x.K) + y.B<<(k-y.K),
		K: k,
	}
}

// times returns the product, which need not be in lowest terms or within the limits.
func (x Num) times(y Num) Num {
	return Num{
		A: x.A*y.A + 2*x.B*y.B,
		B: x.A*y.B + x.B*y.A,
		K: x.K + y.K,
	}
}

// over returns the quotient, where y is not 0, and whether it is a number of this kind; it need not be
// in lowest terms or within the limits.
func (x Num) over(y Num) (Num, bool) {
	// Both are multiplied by A - B r of y, which turns the divisor into the integer norm.
	conjugate := Num{A: y.A, B: -y.B}
	top := Num{A: x.A, B: x.B}.times(conjugate)
	norm := y.times(conjugate).A
	twos := int64(bits.TrailingZeros64(uint64(norm)))
	odd := norm >> twos
	if top.A%odd != 0 || top.B%odd != 0 {
		return Num{}, false
	}
	k := x.K + twos - y.K
	up := max(-k, 0)
	return Num{A: (top.A / odd) << up, B: (top.B / odd) << up, K: k + up}, true
}

// sign returns the sign of x, which need not be valid.
func (x Num) sign() int64 {
	a, b := cmp.Compare(x.A, 0), cmp.Compare(x.B, 0)
	if a*b >= 0 {
		return int64(cmp.Compare(a+b, 0))
	}
	if doubleSquareExceeds(absolute(x.B), absolute(x.A)) {
		return int64(b)
	}
	return int64(a)
}

// doubleSquareExceeds reports whether 2 b^2 > a^2. The squares have 128 bits, and b is at most 2^63,
// so that nothing overflows.
func doubleSquareExceeds(b, a uint64) bool {
	aHigh, aLow := bits.Mul64(a, a)
	bHigh, bLow := bits.Mul64(b, b)
	bHigh, bLow = bHigh<<1|bLow>>63, bLow<<1
	if aHigh != bHigh {
		return bHigh > aHigh
	}
	return bLow > aLow
}

// floor returns the greatest integer that is at most x, which must be valid.
func (x Num) floor() int64 {
	root := int64(squareRoot(2 * uint64(x.B*x.B)))
	if x.B < 0 {
		root = -root - 1 // B r is not an integer
	}
	return (x.A + root) >> x.K
}

// squareRoot returns the greatest integer whose square is at most n.
func squareRoot(n uint64) uint64 {
	root := uint64(0)
	for bit := uint64(1) << 31; bit > 0; bit >>= 1 {
		if next := root | bit; next*next <= n {
			root = next
		}
	}
	return root
}

// text returns the text form of x, which must be valid.
func (x Num) text() string {
	parts := partsText(x.A, x.B)
	if x.K == 0 {
		return parts
	}
	if x.A != 0 && x.B != 0 {
		parts = "(" + parts + ")"
	}
	return parts + "/" + strconv.FormatInt(1<<x.K, 10)
}

func partsText(a, b int64) string {
	whole, root := strconv.FormatInt(a, 10), strconv.FormatInt(b, 10)+"r"
	switch {
	case b == 0:
		return whole
	case a == 0:
		return root
	case b > 0:
		return whole + "+" + root
	default:
		return whole + root
	}
}

// ValidNum reports whether x is valid.
func ValidNum(x Num) bool {
	return x.valid()
}

// MakeNum returns the number (a + b r) / 2^k.
func MakeNum(a, b, k int64) (Num, bool) {
	if k < 0 || k > maxShift {
		return Num{}, false
	}
	return Num{A: a, B: b, K: k}.limited()
}

// AddNum returns the sum of two numbers.
func AddNum(x, y Num) (Num, bool) {
	if !x.valid() || !y.valid() {
		return Num{}, false
	}
	return x.plus(y).limited()
}

// SubNum returns the difference of two numbers.
func SubNum(x, y Num) (Num, bool) {
	if !x.valid() || !y.valid() {
		return Num{}, false
	}
	return x.plus(y.negated()).limited()
}

// MulNum returns the product of two numbers.
func MulNum(x, y Num) (Num, bool) {
	if !x.valid() || !y.valid() {
		return Num{}, false
	}
	return x.times(y).limited()
}

// DivNum returns the quotient of two numbers.
func DivNum(x, y Num) (Num, bool) {
	if !x.valid() || !y.valid() || y == (Num{}) {
		return Num{}, false
	}
	quotient, ok := x.over(y)
	if !ok {
		return Num{}, false
	}
	return quotient.limited()
}

// SignNum returns the sign of a number.
func SignNum(x Num) int64 {
	if !x.valid() {
		return 0
	}
	return x.sign()
}

// CompareNum compares two numbers.
func CompareNum(x, y Num) int64 {
	if !x.valid() || !y.valid() {
		return 0
	}
	return x.plus(y.negated()).sign()
}

// FloorNum returns the greatest integer that is at most x.
func FloorNum(x Num) int64 {
	if !x.valid() {
		return 0
	}
	return x.floor()
}

// NumText returns the text form of a number.
func NumText(x Num) string {
	if !x.valid() {
		return ""
	}
	return x.text()
}

// ReadNum returns the number with a text form.
func ReadNum(s string) (Num, bool) {
	parts, divisor, divided := strings.Cut(s, "/")
	x := Num{}
	if divided {
		x.K = readPower(divisor)
	}
	a, b, ok := readParts(withoutParentheses(parts))
	x.A, x.B = a, b
	// The readers above accept more than one text for a number, so its text form decides.
	if !ok || !x.valid() || x.text() != s {
		return Num{}, false
	}
	return x, true
}

// readPower returns the exponent of a power of 2 in decimal, and -1 for any other text.
func readPower(s string) int64 {
	n, err := strconv.ParseInt(s, 10, 64)
	if err != nil || n <= 0 || n&(n-1) != 0 {
		return -1
	}
	return int64(bits.TrailingZeros64(uint64(n)))
}

// withoutParentheses returns what is between the parentheses that enclose s, or s if there are none.
func withoutParentheses(s string) string {
	inner, enclosed := inParentheses(s)
	if !enclosed {
		return s
	}
	return inner
}

// inParentheses returns what is between the parentheses that enclose s, and whether there are any.
func inParentheses(s string) (string, bool) {
	inner, opened := strings.CutPrefix(s, "(")
	inner, closed := strings.CutSuffix(inner, ")")
	if !opened || !closed {
		return "", false
	}
	return inner, true
}

// readParts returns A and B of the text A, B and r, or A, the sign of B, its absolute value and r.
func readParts(s string) (a, b int64, ok bool) {
	s, hasRoot := strings.CutSuffix(s, "r")
	if !hasRoot {
		a, ok = readInteger(s)
		return a, 0, ok
	}
	split := strings.LastIndexAny(s, "+-")
	if split <= 0 {
		b, ok = readInteger(s)
		return 0, b, ok
	}
	a, aRead := readInteger(s[:split])
	b, bRead := readInteger(s[split:])
	return a, b, aRead && bRead
}

func readInteger(s string) (int64, bool) {
	n, err := strconv.ParseInt(s, 10, 64)
	return n, err == nil
}
