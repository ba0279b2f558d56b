package impl

import (
	"cmp"
	"slices"
	"strconv"
	"strings"
)

const (
	ErrNone = iota
	ErrInvalid
	ErrRange
	ErrLimit
	ErrNotFound
	ErrState
	ErrSyntax
)

const (
	MaxMoney = 1000000000000
	MaxList  = 130
)

const (
	maxDivisor = 1000000000
	maxShared  = 1000000000
	maxWeight  = 1000000000
)

// money is a number of cents. A value outside -MaxMoney..MaxMoney is no money: ask valid before
// calling another method, which may overflow for it.
type money int64

// valid reports whether m is money.
func (m money) valid() bool { return -MaxMoney <= m && m <= MaxMoney }

// partDown returns m * of / whole, rounded down, for of in 0..1000 and whole greater than 0.
func (m money) partDown(of int64, whole int64) int64 {
	product := int64(m) * of
	quotient := product / whole
	// Go's division goes towards 0, which is up for a negative number.
	if product%whole < 0 {
		quotient--
	}
	return quotient
}

// partUp returns m * of / whole, rounded up.
func (m money) partUp(of int64, whole int64) int64 {
	return -(-m).partDown(of, whole)
}

// text returns the text of m.
func (m money) text() string {
	sign := ""
	if m < 0 {
		sign = "-"
		m = -m
	}
	units, cents := int64(m/100), int64(m%100)
	zero := ""
	if cents < 10 {
		zero = "0"
	}
	return sign + strconv.FormatInt(units, 10) + "." + zero + strconv.FormatInt(cents, 10)
}

// isWithin reports whether n is in low..high.
func isWithin(n, low, high int64) bool { return low <= n && n <= high }

// DivideDown returns a / b, rounded down, and ErrNone. It returns 0 and ErrRange if a is no
// money or b is not in 1..1000000000.
func DivideDown(a int64, b int64) (int64, int64) {
	if !money(a).valid() || !isWithin(b, 1, maxDivisor) {
		return 0, ErrRange
	}
	return money(a).partDown(1, b), ErrNone
}

// DivideUp returns a / b, rounded up, and ErrNone. Errors: those of DivideDown.
func DivideUp(a int64, b int64) (int64, int64) {
	if !money(a).valid() || !isWithin(b, 1, maxDivisor) {
		return 0, ErrRange
	}
	return money(a).partUp(1, b), ErrNone
}

// PerMille returns amount * rate / 1000, rounded down, and ErrNone. It returns 0 and ErrRange if
// amount is no money or rate is not in 0..1000.
func PerMille(amount int64, rate int64) (int64, int64) {
	if !money(amount).valid() || !isWithin(rate, 0, 1000) {
		return 0, ErrRange
	}
	return money(amount).partDown(rate, 1000), ErrNone
}

// ShareOut returns the shares of an amount, and ErrNone. It returns nil and, in this order,
// ErrRange if amount is not in 0..1000000000, there are more than MaxList weights, or one is not
// in its range; ErrState if their sum is 0.
func ShareOut(amount int64, weights []int64) ([]int64, int64) {
	if !isWithin(amount, 0, maxShared) || len(weights) > MaxList {
		return nil, ErrRange
	}
	sum := int64(0)
	for _, weight := range weights {
		if !isWithin(weight, 0, maxWeight) {
			return nil, ErrRange
		}
		sum += weight
	}
	if sum == 0 {
		return nil, ErrState
	}
	shares := make([]int64, len(weights))
	remainders := make([]int64, len(weights))
	left := amount
	for i, weight := range weights {
		shares[i] = amount * weight / sum
		remainders[i] = amount * weight % sum
		left -= shares[i]
	}
	giveCents(shares, remainders, left)
	return shares, ErrNone
}

// giveCents adds the cents that are left over to the shares with the greatest remainders. The
// remainders add up to left times the sum of the weights, and each is less than this sum: so
// fewer cents are left than there are remainders greater than 0.
func giveCents(shares, remainders []int64, left int64) {
	order := make([]int, len(shares))
	for i := range order {
		order[i] = i
	}
	// A stable sort keeps the least index first among equal remainders.
	slices.SortStableFunc(order, func(i, j int) int {
		return cmp.Compare(remainders[j], remainders[i])
	})
	for _, i := range order[:left] {
		shares[i]++
	}
}

// SumOf returns the sum of a list of at most MaxList amounts of money, and ErrNone. It returns 0
// and ErrRange if there are more or one is no money; ErrLimit if the sum is no money.
func SumOf(list []int64) (int64, int64) {
	if len(list) > MaxList {
		return 0, ErrRange
	}
	sum := int64(0)
	for _, amount := range list {
		if !money(amount).valid() {
			return 0, ErrRange
		}
		sum += amount
	}
	if !money(sum).valid() {
		return 0, ErrLimit
	}
	return sum, ErrNone
}

// MoneyText returns the text of money, or "" if n is none.
func MoneyText(n int64) string {
	if !money(n).valid() {
		return ""
	}
	return money(n).text()
}

// ReadMoney returns the money with the text s, and true, or 0 and false if there is none.
func ReadMoney(s string) (int64, bool) {
	units, cents, _ := strings.Cut(s, ".")
	n, err := strconv.ParseInt(units+cents, 10, 64)
	// The reading above is lenient (a plus sign, zeros, a dot elsewhere): the text decides.
	if err != nil || !money(n).valid() || money(n).text() != s {
		return 0, false
	}
	return n, true
}

// CommonFactor returns the greatest common divisor of two numbers in 0..MaxMoney, 0 if both are
// 0, and ErrNone. It returns 0 and ErrRange if one is not in its range.
func CommonFactor(a int64, b int64) (int64, int64) {
	if !isWithin(a, 0, MaxMoney) || !isWithin(b, 0, MaxMoney) {
		return 0, ErrRange
	}
	for b != 0 {
		a, b = b, a%b
	}
	return a, ErrNone
}
