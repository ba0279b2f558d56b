package tests

import (
	"fmt"
	"math"
	"math/big"
	"math/rand"
	"slices"
	"strings"
	"testing"

	"loop.example/g01025/impl"
)

// The limits of chapter 1 that have no name in the package.
const (
	maxDivisor = 1000000000
	maxShared  = 1000000000
	maxWeight  = 1000000000
)

// fill returns a list of n equal numbers.
func fill(n int, value int64) []int64 {
	list := make([]int64, n)
	for i := range list {
		list[i] = value
	}
	return list
}

func TestNumbersConstants(t *testing.T) {
	codes := []int64{impl.ErrNone, impl.ErrInvalid, impl.ErrRange, impl.ErrLimit, impl.ErrNotFound, impl.ErrState, impl.ErrSyntax}
	for i, code := range codes {
		if code != int64(i) {
			t.Errorf("the error code at %d is %d", i, code)
		}
	}
	if impl.MaxMoney != 1000000000000 || impl.MaxList != 130 {
		t.Errorf("MaxMoney = %d, MaxList = %d", int64(impl.MaxMoney), impl.MaxList)
	}
}

// roundings are quotients with what they are rounded down and up.
var roundings = []struct{ a, b, down, up int64 }{
	{0, 1, 0, 0},
	{0, maxDivisor, 0, 0},
	{7, 2, 3, 4},
	{-7, 2, -4, -3},
	{8, 2, 4, 4},
	{-8, 2, -4, -4},
	{1, 3, 0, 1},
	{-1, 3, -1, 0},
	{2, 3, 0, 1},
	{-2, 3, -1, 0},
	{1, maxDivisor, 0, 1},
	{-1, maxDivisor, -1, 0},
	{maxDivisor - 1, maxDivisor, 0, 1},
	{maxDivisor, maxDivisor, 1, 1},
	{maxDivisor + 1, maxDivisor, 1, 2},
	{-maxDivisor, maxDivisor, -1, -1},
	{-maxDivisor - 1, maxDivisor, -2, -1},
	{impl.MaxMoney, 1, impl.MaxMoney, impl.MaxMoney},
	{-impl.MaxMoney, 1, -impl.MaxMoney, -impl.MaxMoney},
	{impl.MaxMoney, 3, 333333333333, 333333333334},
	{-impl.MaxMoney, 3, -333333333334, -333333333333},
	{impl.MaxMoney, maxDivisor, 1000, 1000},
	{-impl.MaxMoney, maxDivisor, -1000, -1000},
	{-impl.MaxMoney, 999999999, -1001, -1000},
}

func TestDivideRounds(t *testing.T) {
	for _, c := range roundings {
		if n, code := impl.DivideDown(c.a, c.b); n != c.down || code != impl.ErrNone {
			t.Errorf("DivideDown(%d, %d) = %d, %d; want %d", c.a, c.b, n, code, c.down)
		}
		if n, code := impl.DivideUp(c.a, c.b); n != c.up || code != impl.ErrNone {
			t.Errorf("DivideUp(%d, %d) = %d, %d; want %d", c.a, c.b, n, code, c.up)
		}
	}
}

func TestDivideNeighbours(t *testing.T) {
	for a := int64(-60); a <= 60; a++ {
		for b := int64(1); b <= 25; b++ {
			down, _ := impl.DivideDown(a, b)
			up, _ := impl.DivideUp(a, b)
			if down*b > a || (down+1)*b <= a {
				t.Errorf("DivideDown(%d, %d) = %d", a, b, down)
			}
			if up*b < a || (up-1)*b >= a {
				t.Errorf("DivideUp(%d, %d) = %d", a, b, up)
			}
		}
	}
}

func TestDivideErrors(t *testing.T) {
	for _, c := range []struct{ a, b int64 }{
		{impl.MaxMoney + 1, 1},
		{-impl.MaxMoney - 1, 1},
		{math.MaxInt64, 1},
		{math.MinInt64, 1},
		{math.MinInt64, -1},
		{1, 0},
		{0, 0},
		{1, -1},
		{1, maxDivisor + 1},
		{1, math.MaxInt64},
		{1, math.MinInt64},
		{impl.MaxMoney + 1, 0},
	} {
		if n, code := impl.DivideDown(c.a, c.b); n != 0 || code != impl.ErrRange {
			t.Errorf("DivideDown(%d, %d) = %d, %d", c.a, c.b, n, code)
		}
		if n, code := impl.DivideUp(c.a, c.b); n != 0 || code != impl.ErrRange {
			t.Errorf("DivideUp(%d, %d) = %d, %d", c.a, c.b, n, code)
		}
	}
}

func TestPerMille(t *testing.T) {
	for _, c := range []struct{ amount, rate, want int64 }{
		{12345, 35, 432},
		{-12345, 35, -433},
		{0, 1000, 0},
		{5, 0, 0},
		{-5, 0, 0},
		{1, 999, 0},
		{-1, 1, -1},
		{-1000, 1, -1},
		{-1001, 1, -2},
		{999, 1, 0},
		{1000, 1, 1},
		{77, 1000, 77},
		{-77, 1000, -77},
		{impl.MaxMoney, 1000, impl.MaxMoney},
		{-impl.MaxMoney, 1000, -impl.MaxMoney},
		{impl.MaxMoney, 1, 1000000000},
		{impl.MaxMoney - 1, 999, 998999999999},
		{1 - impl.MaxMoney, 999, -999000000000},
	} {
		if n, code := impl.PerMille(c.amount, c.rate); n != c.want || code != impl.ErrNone {
			t.Errorf("PerMille(%d, %d) = %d, %d; want %d", c.amount, c.rate, n, code, c.want)
		}
	}
	for _, c := range []struct{ amount, rate int64 }{
		{impl.MaxMoney + 1, 1},
		{-impl.MaxMoney - 1, 1},
		{math.MaxInt64, 0},
		{math.MinInt64, 1000},
		{1, -1},
		{1, 1001},
		{1, math.MaxInt64},
		{1, math.MinInt64},
	} {
		if n, code := impl.PerMille(c.amount, c.rate); n != 0 || code != impl.ErrRange {
			t.Errorf("PerMille(%d, %d) = %d, %d", c.amount, c.rate, n, code)
		}
	}
}

func TestShareOutExamples(t *testing.T) {
	for _, c := range []struct {
		amount  int64
		weights []int64
		want    []int64
	}{
		{100, []int64{1, 1, 1}, []int64{34, 33, 33}},
		{101, []int64{1, 1, 1}, []int64{34, 34, 33}},
		{10, []int64{5, 0, 8, 1}, []int64{3, 0, 6, 1}},
		{0, []int64{3, 4}, []int64{0, 0}},
		{1, []int64{1, 2}, []int64{0, 1}},
		{1, []int64{2, 1}, []int64{1, 0}},
		{1, []int64{0, 1}, []int64{0, 1}},
		{1, []int64{0, 1, 0, 1}, []int64{0, 1, 0, 0}},
		{2, []int64{1, 1, 1, 1}, []int64{1, 1, 0, 0}},
		{3, []int64{3, 5, 3, 5}, []int64{1, 1, 0, 1}},
		{7, []int64{9}, []int64{7}},
		{maxShared, []int64{maxWeight}, []int64{maxShared}},
		{maxShared, []int64{maxWeight, maxWeight, maxWeight}, []int64{333333334, 333333333, 333333333}},
	} {
		if list, code := impl.ShareOut(c.amount, c.weights); !slices.Equal(list, c.want) || code != impl.ErrNone {
			t.Errorf("ShareOut(%d, %v) = %v, %d; want %v", c.amount, c.weights, list, code, c.want)
		}
	}
}

// sharesByHand shares out as the document says, with numbers of any size.
func sharesByHand(amount int64, weights []int64) []int64 {
	sum := new(big.Int)
	for _, weight := range weights {
		sum.Add(sum, big.NewInt(weight))
	}
	shares := make([]int64, len(weights))
	remainders := make([]*big.Int, len(weights))
	left := amount
	for i, weight := range weights {
		product := new(big.Int).Mul(big.NewInt(amount), big.NewInt(weight))
		share, remainder := new(big.Int).DivMod(product, sum, new(big.Int))
		shares[i], remainders[i] = share.Int64(), remainder
		left -= shares[i]
	}
	for ; left > 0; left-- {
		best := 0
		for i := range remainders {
			if remainders[i].Cmp(remainders[best]) > 0 {
				best = i
			}
		}
		shares[best]++
		remainders[best] = big.NewInt(-1)
	}
	return shares
}

// checkShares checks promise 1 for one call that has no error.
func checkShares(t *testing.T, amount int64, weights []int64) {
	t.Helper()
	list, code := impl.ShareOut(amount, weights)
	if code != impl.ErrNone || len(list) != len(weights) {
		t.Fatalf("ShareOut(%d, %v) = %v, %d", amount, weights, list, code)
	}
	total, sum := int64(0), int64(0)
	for i := range list {
		total += list[i]
		sum += weights[i]
	}
	if total != amount {
		t.Errorf("ShareOut(%d, %v) = %v, which adds up to %d", amount, weights, list, total)
	}
	for i, share := range list {
		exact := new(big.Int).Mul(big.NewInt(amount), big.NewInt(weights[i]))
		given := new(big.Int).Mul(big.NewInt(share), big.NewInt(sum))
		if exact.Sub(exact, given).CmpAbs(big.NewInt(sum)) >= 0 {
			t.Errorf("ShareOut(%d, %v) = %v: the share of %d is wrong by a cent or more", amount, weights, list, i)
		}
	}
	if want := sharesByHand(amount, weights); !slices.Equal(list, want) {
		t.Errorf("ShareOut(%d, %v) = %v; want %v", amount, weights, list, want)
	}
}

func TestShareOutSmallWeights(t *testing.T) {
	for code := 1; code < 5*5*5*5; code++ {
		weights := []int64{int64(code % 5), int64(code / 5 % 5), int64(code / 25 % 5), int64(code / 125)}
		for amount := int64(0); amount <= 12; amount++ {
			checkShares(t, amount, weights)
		}
	}
}

func TestShareOutManyWeights(t *testing.T) {
	random := rand.New(rand.NewSource(1))
	for range 3000 {
		weights := make([]int64, 1+random.Intn(impl.MaxList))
		top := []int64{2, 10, 1000, maxWeight + 1}[random.Intn(4)]
		for i := range weights {
			weights[i] = random.Int63n(top)
		}
		weights[random.Intn(len(weights))] = top - 1
		checkShares(t, random.Int63n(maxShared+1), weights)
		checkShares(t, random.Int63n(2*int64(len(weights))), weights)
	}
}

func TestShareOutLimits(t *testing.T) {
	checkShares(t, maxShared, fill(impl.MaxList, maxWeight))
	checkShares(t, maxShared, fill(impl.MaxList, 1))
	checkShares(t, maxShared-1, fill(impl.MaxList, maxWeight-1))
	checkShares(t, impl.MaxList-1, fill(impl.MaxList, maxWeight))
	lone := fill(impl.MaxList, 0)
	lone[impl.MaxList-1] = 1
	checkShares(t, maxShared, lone)
	// The first share lacks less of a cent than a float can tell.
	checkShares(t, 999999937, []int64{531468536, 734278085, 734253396})
}

func TestShareOutErrors(t *testing.T) {
	for _, c := range []struct {
		name    string
		amount  int64
		weights []int64
		want    int64
	}{
		{"negative amount", -1, []int64{1}, impl.ErrRange},
		{"least amount", math.MinInt64, []int64{1}, impl.ErrRange},
		{"amount too great", maxShared + 1, []int64{1}, impl.ErrRange},
		{"greatest amount", math.MaxInt64, []int64{1}, impl.ErrRange},
		{"too many weights", 1, fill(impl.MaxList+1, 1), impl.ErrRange},
		{"negative weight", 1, []int64{2, -1}, impl.ErrRange},
		{"weights that cancel out", 1, []int64{1, -1}, impl.ErrRange},
		{"least weight", 1, []int64{1, math.MinInt64}, impl.ErrRange},
		{"weight too great", 1, []int64{1, maxWeight + 1}, impl.ErrRange},
		{"greatest weight", 1, []int64{math.MaxInt64, math.MaxInt64}, impl.ErrRange},
		{"no weights", 1, nil, impl.ErrState},
		{"empty weights", 0, []int64{}, impl.ErrState},
		{"weights of 0", 10, []int64{0, 0}, impl.ErrState},
		{"as many weights of 0 as there may be", 0, fill(impl.MaxList, 0), impl.ErrState},
		{"wrong amount before a sum of 0", -1, []int64{0}, impl.ErrRange},
		{"great amount before a sum of 0", maxShared + 1, nil, impl.ErrRange},
		{"too many weights before a sum of 0", 1, fill(impl.MaxList+1, 0), impl.ErrRange},
	} {
		if list, code := impl.ShareOut(c.amount, c.weights); len(list) != 0 || code != c.want {
			t.Errorf("%s: %v, %d; want %d", c.name, list, code, c.want)
		}
	}
}

func TestShareOutMemory(t *testing.T) {
	back := []int64{5, 0, 8, 1, 70, 71}
	weights := back[:4]
	first, _ := impl.ShareOut(10, weights)
	if !slices.Equal(back, []int64{5, 0, 8, 1, 70, 71}) {
		t.Errorf("ShareOut changed its argument: %v", back)
	}
	second, _ := impl.ShareOut(10, weights)
	for i := range first {
		first[i] = -9
	}
	if !slices.Equal(second, []int64{3, 0, 6, 1}) || !slices.Equal(back, []int64{5, 0, 8, 1, 70, 71}) {
		t.Errorf("a result of ShareOut shares memory: %v, %v", second, back)
	}
}

func TestSumOf(t *testing.T) {
	over := append(fill(impl.MaxList-1, 0), impl.MaxMoney+1)
	for _, c := range []struct {
		name string
		list []int64
		want int64
		code int64
	}{
		{"no list", nil, 0, impl.ErrNone},
		{"empty list", []int64{}, 0, impl.ErrNone},
		{"some amounts", []int64{5, -7, 100}, 98, impl.ErrNone},
		{"negative sum", []int64{-5, 3}, -2, impl.ErrNone},
		{"greatest sum", []int64{impl.MaxMoney - 1, 1}, impl.MaxMoney, impl.ErrNone},
		{"least sum", []int64{-1, 1 - impl.MaxMoney}, -impl.MaxMoney, impl.ErrNone},
		{"much money on the way", []int64{impl.MaxMoney, impl.MaxMoney, -impl.MaxMoney}, impl.MaxMoney, impl.ErrNone},
		{"much debt on the way", []int64{-impl.MaxMoney, -impl.MaxMoney, impl.MaxMoney}, -impl.MaxMoney, impl.ErrNone},
		{"as many as there may be", fill(impl.MaxList, -3), -3 * impl.MaxList, impl.ErrNone},
		{"too many", fill(impl.MaxList+1, 0), 0, impl.ErrRange},
		{"no money", []int64{impl.MaxMoney + 1}, 0, impl.ErrRange},
		{"no debt", []int64{-impl.MaxMoney - 1}, 0, impl.ErrRange},
		{"no money at the end", over, 0, impl.ErrRange},
		{"numbers that wrap around", []int64{math.MaxInt64, math.MaxInt64, 2}, 0, impl.ErrRange},
		{"least number", []int64{math.MinInt64}, 0, impl.ErrRange},
		{"sum too great", []int64{impl.MaxMoney, 1}, 0, impl.ErrLimit},
		{"sum too small", []int64{-impl.MaxMoney, -1}, 0, impl.ErrLimit},
		{"sum far too great", fill(impl.MaxList, impl.MaxMoney), 0, impl.ErrLimit},
		{"sum far too small", fill(impl.MaxList, -impl.MaxMoney), 0, impl.ErrLimit},
		{"range before limit", []int64{impl.MaxMoney, 1, impl.MaxMoney + 1}, 0, impl.ErrRange},
		{"number before limit", fill(impl.MaxList+1, impl.MaxMoney), 0, impl.ErrRange},
	} {
		if n, code := impl.SumOf(c.list); n != c.want || code != c.code {
			t.Errorf("%s: %d, %d; want %d, %d", c.name, n, code, c.want, c.code)
		}
	}
}

// moneyTexts are amounts of money with their texts.
var moneyTexts = []struct {
	n int64
	s string
}{
	{0, "0.00"},
	{1, "0.01"},
	{-1, "-0.01"},
	{9, "0.09"},
	{10, "0.10"},
	{-10, "-0.10"},
	{99, "0.99"},
	{-99, "-0.99"},
	{100, "1.00"},
	{-100, "-1.00"},
	{101, "1.01"},
	{-1234, "-12.34"},
	{100000, "1000.00"},
	{123456789012, "1234567890.12"},
	{impl.MaxMoney - 1, "9999999999.99"},
	{1 - impl.MaxMoney, "-9999999999.99"},
	{impl.MaxMoney, "10000000000.00"},
	{-impl.MaxMoney, "-10000000000.00"},
}

func TestMoneyTexts(t *testing.T) {
	for _, c := range moneyTexts {
		if s := impl.MoneyText(c.n); s != c.s {
			t.Errorf("MoneyText(%d) = %q; want %q", c.n, s, c.s)
		}
		if n, ok := impl.ReadMoney(c.s); n != c.n || !ok {
			t.Errorf("ReadMoney(%q) = %d, %v; want %d", c.s, n, ok, c.n)
		}
	}
	for _, n := range []int64{impl.MaxMoney + 1, -impl.MaxMoney - 1, math.MaxInt64, math.MinInt64} {
		if s := impl.MoneyText(n); s != "" {
			t.Errorf("MoneyText(%d) = %q", n, s)
		}
	}
}

func TestMoneyIsFoundFromItsText(t *testing.T) {
	for n := int64(-2500); n <= 2500; n++ {
		sign, size := "", n
		if n < 0 {
			sign, size = "-", -n
		}
		want := fmt.Sprintf("%s%d.%02d", sign, size/100, size%100)
		s := impl.MoneyText(n)
		if s != want {
			t.Errorf("MoneyText(%d) = %q; want %q", n, s, want)
		}
		if back, ok := impl.ReadMoney(s); back != n || !ok {
			t.Errorf("ReadMoney(%q) = %d, %v", s, back, ok)
		}
	}
}

func TestNoTextsOfMoney(t *testing.T) {
	for _, s := range []string{
		"", "-", ".", "-.", "0", "1", "12", "1.", "1.0", "1.000", ".50", "-.50", ".00", "0.0", "100",
		"01.00", "00.00", "-01.00", "-0.00", "+1.00", "+0.00", "--1.00", "-+1.00", "1.-5", "1.+5", "-1.-5",
		"1,00", "1.0.0", "1..00", "1.00.", "10.0", "1.0x", "x.00", "1e2.00", "0x1.00", "1_0.00", "1_000.00",
		" 1.00", "1.00 ", "1 .00", "- 1.00", "1.00\n", "1.00\x00", "\x001.00", "1.\xff0",
		"\u0661.00", "\uff11.00", "1\uff0e00", "\u22121.00",
		"10000000000.01", "-10000000000.01", "10000000001.00", "99999999999.99", "100000000000.00",
		"92233720368547758.07", "92233720368547758.08", "-92233720368547758.08", "184467440737095516.16",
		"184467440737095516.17", strings.Repeat("9", 5000) + ".00", strings.Repeat("0", 5000) + ".00",
		"nil", "NaN", "true",
	} {
		if n, ok := impl.ReadMoney(s); n != 0 || ok {
			t.Errorf("ReadMoney(%q) = %d, %v", s, n, ok)
		}
	}
}

// TestTextsNearMoney changes texts of money in one byte: what is read then has just that text.
func TestTextsNearMoney(t *testing.T) {
	for _, c := range moneyTexts {
		for i := 0; i <= len(c.s); i++ {
			near := []string{c.s[:i]}
			for _, b := range "0159-+. ,x" {
				near = append(near, c.s[:i]+string(b)+c.s[i:])
				if i < len(c.s) {
					near = append(near, c.s[:i]+string(b)+c.s[i+1:])
				}
			}
			if i < len(c.s) {
				near = append(near, c.s[:i]+c.s[i+1:])
			}
			for _, s := range near {
				checkReading(t, s)
			}
		}
	}
}

// checkReading compares ReadMoney with a reading of the form that the document describes.
func checkReading(t *testing.T, s string) {
	t.Helper()
	want, isText := readByHand(s)
	if n, ok := impl.ReadMoney(s); n != want || ok != isText {
		t.Errorf("ReadMoney(%q) = %d, %v; want %d, %v", s, n, ok, want, isText)
	}
}

// readByHand reads a text of money byte by byte.
func readByHand(s string) (int64, bool) {
	rest, negative := strings.CutPrefix(s, "-")
	dot := len(rest) - 3
	if dot < 1 || rest[dot] != '.' || dot > 1 && rest[0] == '0' {
		return 0, false
	}
	n := int64(0)
	for i := range len(rest) {
		if i == dot {
			continue
		}
		if rest[i] < '0' || rest[i] > '9' || n > impl.MaxMoney {
			return 0, false
		}
		n = 10*n + int64(rest[i]-'0')
	}
	if n > impl.MaxMoney || negative && n == 0 {
		return 0, false
	}
	if negative {
		n = -n
	}
	return n, true
}

func TestCommonFactor(t *testing.T) {
	for _, c := range []struct{ a, b, want int64 }{
		{84, 36, 12},
		{36, 84, 12},
		{0, 0, 0},
		{0, 5, 5},
		{5, 0, 5},
		{1, 1, 1},
		{1, impl.MaxMoney, 1},
		{17, 31, 1},
		{12, 12, 12},
		{0, impl.MaxMoney, impl.MaxMoney},
		{impl.MaxMoney, 0, impl.MaxMoney},
		{impl.MaxMoney, impl.MaxMoney, impl.MaxMoney},
		{impl.MaxMoney, impl.MaxMoney - 1, 1},
		{impl.MaxMoney, 1024 * 3, 1024},
		{956722026041, 591286729879, 1}, // Fibonacci numbers take the most steps
	} {
		if n, code := impl.CommonFactor(c.a, c.b); n != c.want || code != impl.ErrNone {
			t.Errorf("CommonFactor(%d, %d) = %d, %d; want %d", c.a, c.b, n, code, c.want)
		}
	}
	for _, c := range []struct{ a, b int64 }{
		{-1, 0},
		{0, -1},
		{-4, 6},
		{4, -6},
		{impl.MaxMoney + 1, 1},
		{1, impl.MaxMoney + 1},
		{math.MinInt64, -1},
		{math.MaxInt64, 0},
		{0, math.MinInt64},
	} {
		if n, code := impl.CommonFactor(c.a, c.b); n != 0 || code != impl.ErrRange {
			t.Errorf("CommonFactor(%d, %d) = %d, %d", c.a, c.b, n, code)
		}
	}
}

func TestCommonFactorIsTheGreatest(t *testing.T) {
	for a := int64(0); a <= 40; a++ {
		for b := int64(0); b <= 40; b++ {
			n, _ := impl.CommonFactor(a, b)
			want := int64(0)
			for d := int64(1); d <= max(a, b); d++ {
				if a%d == 0 && b%d == 0 {
					want = d
				}
			}
			if n != want {
				t.Errorf("CommonFactor(%d, %d) = %d; want %d", a, b, n, want)
			}
		}
	}
}
