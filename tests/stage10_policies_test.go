package tests

import (
	"fmt"
	"math"
	"math/big"
	"math/rand"
	"regexp"
	"slices"
	"strings"
	"testing"

	"loop.example/g01025/impl"
)

// The limits of chapter 10 that have no name in the package.
const (
	maxLoad    = 1000
	maxPremium = 100000000
)

// Numbers that are not in the ranges of chapter 10.
var (
	noLoads    = []int64{-1, maxLoad + 1, -maxLoad, 1 << 32, 1<<32 + 80, math.MinInt64, math.MinInt64 + 1, math.MaxInt64 - 1, math.MaxInt64}
	noPremiums = []int64{0, -1, maxPremium + 1, -maxPremium, 1 << 32, 1<<32 + 1, math.MinInt64, math.MinInt64 + 1, math.MaxInt64 - 1, math.MaxInt64}
)

// policy returns a value of the type Policy, which need not be valid.
func policy(kind, age, years, sum, load int64) impl.Policy {
	return impl.Policy{Kind: kind, Age: age, Years: years, Sum: sum, Load: load}
}

func basis(x impl.LifeTable, rate int64) impl.Basis { return impl.Basis{Table: x, Rate: rate} }

func TestIsBasis(t *testing.T) {
	for _, x := range append(sampleTables(), longTable, lateTable, slowLives) {
		for rate := range int64(impl.MaxRate + 1) {
			if !impl.IsBasis(basis(x, rate)) {
				t.Errorf("IsBasis is false for %v at the rate %d", x, rate)
			}
		}
		for _, rate := range noRates {
			if impl.IsBasis(basis(x, rate)) {
				t.Errorf("IsBasis is true for %v at the rate %d", x, rate)
			}
		}
	}
	for name, x := range noTables() {
		for _, rate := range append(noRates, 0, 40, impl.MaxRate) {
			if impl.IsBasis(basis(x, rate)) {
				t.Errorf("%s: IsBasis is true for %v at the rate %d", name, x, rate)
			}
		}
	}
}

// checkNoPolicy checks that a policy is not valid for a basis, whatever the premium is.
func checkNoPolicy(t *testing.T, b impl.Basis, p impl.Policy) {
	t.Helper()
	if impl.IsPolicy(b, p) {
		t.Errorf("IsPolicy(%v, %v) is true", b, p)
	}
	if n, code := impl.NetPremium(b, p); n != 0 || code != impl.ErrInvalid {
		t.Errorf("NetPremium(%v, %v) = %d, %d", b, p, n, code)
	}
	if n, code := impl.OfficePremium(b, p); n != 0 || code != impl.ErrInvalid {
		t.Errorf("OfficePremium(%v, %v) = %d, %d", b, p, n, code)
	}
	if n, code := impl.DurationOf(b, p); n != 0 || code != impl.ErrInvalid {
		t.Errorf("DurationOf(%v, %v) = %d, %d", b, p, n, code)
	}
	if q, r, code := impl.PremiumGain(b, p); q != 0 || r != 0 || code != impl.ErrInvalid {
		t.Errorf("PremiumGain(%v, %v) = %d, %d, %d", b, p, q, r, code)
	}
	for _, premium := range []int64{1, maxPremium, 0, maxPremium + 1} {
		if n, code := impl.SumForPremium(b, p, premium); n != 0 || code != impl.ErrInvalid {
			t.Errorf("SumForPremium(%v, %v, %d) = %d, %d", b, p, premium, n, code)
		}
	}
}

// checkNoSum checks that a policy is valid, but that there is no sum for a premium.
func checkNoSum(t *testing.T, b impl.Basis, p impl.Policy, premium, want int64) {
	t.Helper()
	if n, code := impl.SumForPremium(b, p, premium); n != 0 || code != want || !impl.IsPolicy(b, p) {
		t.Errorf("SumForPremium(%v, %v, %d) = %d, %d; want %d", b, p, premium, n, code, want)
	}
}

// TestPolicyExamples has numbers that a program in another language has reckoned.
func TestPolicyExamples(t *testing.T) {
	x := table(60, 100, 90, 72, 36, 0)
	for _, c := range []struct {
		x                           impl.LifeTable
		rate                        int64
		p                           impl.Policy
		net, office, duration, q, r int64
	}{
		// Each kind, and each number of years that has lives at its beginning.
		{x, 40, policy(impl.AssureLife, 60, 0, 10000, 100), 3123, 3436, 4, 0, 57548443538},
		{x, 40, policy(impl.AssureTerm, 60, 1, 10000, 100), 962, 1059, 1, 0, 46153900000},
		{x, 40, policy(impl.AssureTerm, 60, 2, 10000, 100), 1408, 1549, 2, 0, 72189517920},
		{x, 40, policy(impl.AssureTerm, 60, 3, 10000, 100), 2302, 2533, 3, 0, 38530371708},
		{x, 40, policy(impl.AssureTerm, 60, 4, 10000, 100), 3123, 3436, 4, 0, 57548443538},
		{x, 40, policy(impl.AssureEndowment, 60, 1, 10000, 100), 9616, 10578, 1, 0, 61539000000},
		{x, 40, policy(impl.AssureEndowment, 60, 2, 10000, 100), 4977, 5475, 2, 1, 47485935730},
		{x, 40, policy(impl.AssureEndowment, 60, 3, 10000, 100), 3567, 3924, 3, 1, 79575425518},
		{x, 40, policy(impl.AssureEndowment, 60, 4, 10000, 100), 3123, 3436, 4, 0, 57548443538},
		{x, 40, policy(impl.AssurePure, 60, 1, 10000, 100), 8654, 9520, 1, 0, 15385100000},
		{x, 40, policy(impl.AssurePure, 60, 2, 10000, 100), 3569, 3926, 2, 0, 75296417810},
		{x, 40, policy(impl.AssurePure, 60, 3, 10000, 100), 1265, 1392, 3, 1, 41045053810},
		{x, 40, policy(impl.AssurePure, 60, 4, 10000, 100), 0, 0, 4, 0, 0},
		{table(60, 100, 90, 0), 40, policy(impl.AssureLife, 60, 0, 10000, 100), 4977, 5475, 2, 1, 47485935730},
		// Later ages, up to the last one at which lives are left.
		{x, 40, policy(impl.AssureLife, 61, 0, 10000, 100), 4291, 4721, 3, 1, 33777125856},
		{x, 40, policy(impl.AssureTerm, 61, 2, 10000, 100), 3178, 3496, 2, 1, 27139678722},
		{x, 40, policy(impl.AssureEndowment, 61, 3, 10000, 100), 4291, 4721, 3, 1, 33777125856},
		{x, 40, policy(impl.AssurePure, 61, 2, 10000, 100), 2091, 2301, 2, 1, 20482823124},
		{x, 40, policy(impl.AssureLife, 63, 0, 10000, 100), 9616, 10578, 1, 0, 19694840832},
		{x, 40, policy(impl.AssureTerm, 63, 1, 10000, 100), 9616, 10578, 1, 0, 19694840832},
		{x, 40, policy(impl.AssureEndowment, 63, 1, 10000, 100), 9616, 10578, 1, 0, 19694840832},
		{x, 40, policy(impl.AssurePure, 63, 1, 10000, 100), 0, 0, 1, 0, 0},
		// Loads at the limits, and such that come out even or are rounded up.
		{x, 40, policy(impl.AssureLife, 60, 0, 10000, 0), 3123, 3123, 4, 0, 57548443538},
		{x, 40, policy(impl.AssureLife, 60, 0, 10000, 1), 3123, 3127, 4, 0, 57548443538},
		{x, 40, policy(impl.AssureLife, 60, 0, 10000, 999), 3123, 6243, 4, 0, 57548443538},
		{x, 40, policy(impl.AssureLife, 60, 0, 10000, 1000), 3123, 6246, 4, 0, 57548443538},
		{x, 0, policy(impl.AssureEndowment, 60, 3, 655, 100), 250, 275, 3, 0, 0},
		{x, 0, policy(impl.AssureEndowment, 60, 3, 655, 4), 250, 251, 3, 0, 0},
		{x, 0, policy(impl.AssureEndowment, 60, 3, 655, 5), 250, 252, 3, 0, 0},
		{x, 0, policy(impl.AssureEndowment, 60, 3, 655, 3), 250, 251, 3, 0, 0},
		{x, 0, policy(impl.AssureEndowment, 60, 3, 3275, 80), 1250, 1350, 3, 0, 0},
		{x, 0, policy(impl.AssureEndowment, 60, 3, 3275, 81), 1250, 1352, 3, 0, 0},
		{x, 0, policy(impl.AssureTerm, 60, 1, 9990, 1), 999, 1000, 1, 0, 0},
		{x, 0, policy(impl.AssureTerm, 60, 1, 10000, 1), 1000, 1001, 1, 0, 0},
		{x, 0, policy(impl.AssureTerm, 60, 1, 10010, 1), 1001, 1003, 1, 0, 0},
		// The least and the greatest Sum.
		{x, 40, policy(impl.AssureLife, 60, 0, 1, 0), 1, 1, 4, 1, 96076161524},
		{x, 40, policy(impl.AssureLife, 60, 0, 1, 1), 1, 2, 4, 1, 96076161524},
		{x, 40, policy(impl.AssureLife, 60, 0, 1, 1000), 1, 2, 4, 1, 96076161524},
		{x, 40, policy(impl.AssureTerm, 60, 2, 1, 80), 1, 2, 2, 1, 60281065064},
		{x, 40, policy(impl.AssureEndowment, 60, 2, 1, 80), 1, 2, 2, 0, 93713017800},
		{x, 40, policy(impl.AssurePure, 60, 2, 1, 80), 1, 2, 2, 1, 19970414226},
		{x, 40, policy(impl.AssureLife, 60, 0, maxSum, 0), 31227982, 31227982, 4, 1, 31693371092},
		{x, 40, policy(impl.AssureLife, 60, 0, maxSum, 1000), 31227982, 62455964, 4, 1, 31693371092},
		{x, 40, policy(impl.AssureTerm, 60, 3, maxSum, 80), 23018478, 24859957, 3, 0, 75610756412},
		{x, 40, policy(impl.AssureEndowment, 60, 3, maxSum, 80), 35662906, 38515939, 3, 2, 16682079124},
		{x, 40, policy(impl.AssurePure, 60, 3, maxSum, 80), 12644428, 13655983, 3, 1, 41071322712},
		{x, 40, policy(impl.AssureEndowment, 63, 1, maxSum, 1000), 96153847, 192307694, 1, 0, 28603273644},
		// Net premiums that come out even, and so gain nothing; and such that are rounded up by little and by much.
		{x, 0, policy(impl.AssureLife, 63, 0, maxSum, 1000), 100000000, 200000000, 1, 0, 0},
		{x, 0, policy(impl.AssureTerm, 60, 1, 10, 80), 1, 2, 1, 0, 0},
		{x, 0, policy(impl.AssureTerm, 60, 1, 11, 80), 2, 3, 1, 0, 90000000000},
		{x, 0, policy(impl.AssureTerm, 60, 1, 19, 80), 2, 3, 1, 0, 10000000000},
		{x, 0, policy(impl.AssurePure, 60, 1, 10, 80), 9, 10, 1, 0, 0},
		{x, 0, policy(impl.AssureLife, 60, 0, 149, 80), 50, 54, 4, 0, 0},
		{x, 0, policy(impl.AssureLife, 60, 0, 148, 80), 50, 54, 4, 1, 0},
		{x, 0, policy(impl.AssureLife, 60, 0, 150, 80), 51, 56, 4, 1, 98000000000},
		{x, 0, policy(impl.AssureTerm, 60, 2, 475, 80), 70, 76, 2, 0, 0},
		{x, 0, policy(impl.AssureTerm, 60, 2, 474, 80), 70, 76, 2, 0, 28000000000},
		{x, 0, policy(impl.AssureTerm, 60, 2, 476, 80), 71, 77, 2, 1, 62000000000},
		{x, 0, policy(impl.AssureEndowment, 60, 2, 19, 80), 10, 11, 2, 0, 0},
		{x, 0, policy(impl.AssureEndowment, 60, 2, 20, 80), 11, 12, 2, 0, 90000000000},
		{x, 0, policy(impl.AssurePure, 60, 3, 655, 80), 90, 98, 3, 0, 0},
		{x, 0, policy(impl.AssurePure, 60, 3, 656, 80), 91, 99, 3, 2, 26000000000},
		// Gains of several cents.
		{x, 0, policy(impl.AssureLife, 60, 0, 3, 80), 2, 3, 4, 2, 96000000000},
		{x, 0, policy(impl.AssureEndowment, 60, 4, 1, 80), 1, 2, 4, 1, 98000000000},
		{longTable, 0, policy(impl.AssureEndowment, 31, 119, 1, 80), 1, 2, 119, 118, 0},
		{longTable, 0, policy(impl.AssureLife, 31, 0, 120, 80), 2, 3, 119, 118, 0},
		{longTable, 1, policy(impl.AssurePure, 31, 118, 1, 80), 1, 2, 118, 110, 474048220000000},
		{slowLives, 0, policy(impl.AssureEndowment, 0, 119, 1, 0), 1, 1, 119, 24, 4000000000},
		{slowLives, 0, policy(impl.AssureLife, 0, 0, 90, 0), 4, 4, 119, 13, 1000000000},
		// The greatest remainder, with no cent and with some.
		{slowLives, impl.MaxRate, policy(impl.AssurePure, 79, 2, 588, 0), 223, 223, 2, 0, 553},
		{slowLives, impl.MaxRate, policy(impl.AssureEndowment, 78, 2, 969, 80), 367, 397, 2, 0, 664},
		{slowLives, impl.MaxRate, policy(impl.AssurePure, 75, 5, 941, 0), 106, 106, 5, 2, 1149},
		{slowLives, impl.MaxRate, policy(impl.AssureEndowment, 59, 20, 969, 1000), 5, 10, 20, 3, 21294},
		{slowLives, impl.MaxRate, policy(impl.AssureEndowment, 87, 20, 2210, 0), 4, 4, 20, 4, 126},
		{level(0, 1, 120), 57, policy(impl.AssurePure, 0, 1, 61326657, 0), 58019544, 58019544, 1, 0, 999999999},
		{level(0, 1, 120), 116, policy(impl.AssurePure, 0, 1, 96256683, 0), 86251509, 86251509, 1, 0, 999999999},
		// The rates at the limits.
		{x, impl.MaxRate, policy(impl.AssureLife, 60, 0, 10000, 80), 2402, 2595, 4, 2, 13889556892},
		{x, impl.MaxRate, policy(impl.AssureTerm, 60, 2, 10000, 80), 1191, 1287, 2, 0, 91666744270},
		{x, impl.MaxRate, policy(impl.AssureEndowment, 60, 2, 10000, 80), 4048, 4372, 2, 0, 66666978560},
		{x, impl.MaxRate, policy(impl.AssurePure, 60, 2, 10000, 80), 2858, 3087, 2, 1, 50000234260},
		{x, impl.MaxRate, policy(impl.AssureEndowment, 62, 2, maxSum, 80), 53921569, 58235295, 2, 0, 30941830044},
		{x, 0, policy(impl.AssureEndowment, 61, 2, maxSum, 80), 55555556, 60000001, 2, 0, 72000000000},
		{longTable, 1, policy(impl.AssureEndowment, 31, 60, maxSum, 80), 1616384, 1745695, 60, 47, 970246144000000},
		// The age 0, and as many years as there may be at it.
		{table(0, 1, 0), 40, policy(impl.AssureLife, 0, 0, maxSum, 80), 96153847, 103846155, 1, 0, 900000000},
		{table(0, 1, 0), impl.MaxRate, policy(impl.AssureEndowment, 0, 1, maxSum, 80), 83333334, 90000001, 1, 0, 700000000},
		{table(0, impl.MaxLives, 0), 40, policy(impl.AssureTerm, 0, 1, 10000, 80), 9616, 10386, 1, 0, 615390000000000},
		{slowLives, 40, policy(impl.AssureLife, 0, 0, 10000, 80), 1029, 1112, 119, 2, 1418035385},
		{slowLives, 40, policy(impl.AssureTerm, 0, 119, 10000, 80), 1029, 1112, 119, 2, 1418035385},
		{slowLives, 40, policy(impl.AssureEndowment, 0, 118, 10000, 80), 1030, 1113, 118, 6, 2970172630},
		{slowLives, 40, policy(impl.AssureEndowment, 0, 119, 10000, 80), 1029, 1112, 119, 2, 1418035385},
		{slowLives, 40, policy(impl.AssurePure, 0, 118, 10000, 80), 3, 4, 118, 1, 3367368163},
		{slowLives, 40, policy(impl.AssurePure, 0, 119, 10000, 80), 0, 0, 119, 0, 0},
		{slowLives, 40, policy(impl.AssureEndowment, 118, 1, 10000, 80), 9616, 10386, 1, 0, 6023904},
		// The age 100, and Age + Years at MaxAge.
		{table(100, 7, 7, 7, 0), 35, policy(impl.AssureTerm, 100, 2, 10000, 80), 0, 0, 2, 0, 0},
		{table(100, 7, 7, 7, 0), 35, policy(impl.AssureEndowment, 100, 3, 10000, 80), 3111, 3360, 3, 1, 3652903121},
		{lateTable, 35, policy(impl.AssureLife, 100, 0, maxSum, 80), 737557, 796562, 50, 13, 613718195000000},
		{lateTable, 35, policy(impl.AssureTerm, 100, 50, maxSum, 80), 737557, 796562, 50, 13, 613718195000000},
		{lateTable, impl.MaxRate, policy(impl.AssureEndowment, 100, 50, maxSum, 80), 1832, 1979, 50, 2, 491927904000000},
		{lateTable, impl.MaxRate, policy(impl.AssurePure, 100, 50, maxSum, 80), 0, 0, 50, 0, 0},
		{lateTable, 35, policy(impl.AssureEndowment, 149, 1, maxSum, 80), 96618358, 104347827, 1, 0, 126782340000000},
		{longTable, 0, policy(impl.AssureTerm, 31, 119, maxSum, 80), 840337, 907564, 119, 103, 0},
		{longTable, 0, policy(impl.AssureEndowment, 31, 119, maxSum, 80), 840337, 907564, 119, 103, 0},
		{longTable, 35, policy(impl.AssurePure, 31, 119, maxSum, 80), 0, 0, 119, 0, 0},
		{longTable, 35, policy(impl.AssureLife, 149, 0, 7, 80), 7, 8, 1, 0, 4085683000000},
		{longTable, 35, policy(impl.AssurePure, 149, 1, 7, 80), 0, 0, 1, 0, 0},
		// Nobody dies for a long time; products that no int64 holds.
		{longTable, 0, policy(impl.AssureTerm, 31, 118, maxSum, 80), 0, 0, 118, 0, 0},
		{longTable, 0, policy(impl.AssureEndowment, 31, 118, maxSum, 80), 847458, 915255, 118, 44, 0},
		{longTable, 0, policy(impl.AssurePure, 31, 118, maxSum-1, 80), 847458, 915255, 118, 45, 0},
		{longTable, 0, policy(impl.AssureLife, 31, 0, maxSum-1, 80), 840337, 907564, 119, 104, 0},
		{longTable, 1, policy(impl.AssureEndowment, 31, 119, maxSum-3, 1000), 790957, 1581914, 119, 93, 861129591000000},
		// The least discounts, and an age just before that at which the discount is 0, with lives left.
		{longTable, impl.MaxRate, policy(impl.AssureLife, 138, 0, maxSum, 80), 0, 0, 12, 0, 0},
		{longTable, impl.MaxRate, policy(impl.AssureTerm, 138, 1, maxSum, 80), 0, 0, 1, 0, 0},
		{longTable, impl.MaxRate, policy(impl.AssureEndowment, 138, 1, maxSum, 80), 0, 0, 1, 0, 0},
		{longTable, impl.MaxRate, policy(impl.AssurePure, 138, 1, maxSum, 80), 0, 0, 1, 0, 0},
		{longTable, impl.MaxRate, policy(impl.AssureEndowment, 137, 1, 10000, 80), 5000, 5400, 1, 0, 0},
		{longTable, impl.MaxRate, policy(impl.AssureEndowment, 137, 2, 10000, 80), 0, 0, 2, 0, 0},
		{longTable, impl.MaxRate, policy(impl.AssurePure, 31, 107, 1, 80), 1, 2, 107, 5, 999999739000000},
		{longTable, impl.MaxRate, policy(impl.AssurePure, 31, 108, 1, 80), 0, 0, 108, 0, 0},
		{longTable, impl.MaxRate, policy(impl.AssureLife, 31, 0, maxSum, 80), 0, 0, 119, 0, 0},
		{slowLives, impl.MaxRate, policy(impl.AssureEndowment, 100, 7, maxSum, 80), 2631579, 2842106, 7, 0, 2},
	} {
		b := basis(c.x, c.rate)
		if !impl.IsPolicy(b, c.p) {
			t.Errorf("IsPolicy(%v, %v) is false", b, c.p)
		}
		if n, code := impl.NetPremium(b, c.p); n != c.net || code != impl.ErrNone {
			t.Errorf("NetPremium(%v, %v) = %d, %d; want %d", b, c.p, n, code, c.net)
		}
		if n, code := impl.OfficePremium(b, c.p); n != c.office || code != impl.ErrNone {
			t.Errorf("OfficePremium(%v, %v) = %d, %d; want %d", b, c.p, n, code, c.office)
		}
		if n, code := impl.DurationOf(b, c.p); n != c.duration || code != impl.ErrNone {
			t.Errorf("DurationOf(%v, %v) = %d, %d; want %d", b, c.p, n, code, c.duration)
		}
		if q, r, code := impl.PremiumGain(b, c.p); q != c.q || r != c.r || code != impl.ErrNone {
			t.Errorf("PremiumGain(%v, %v) = %d, %d, %d; want %d, %d", b, c.p, q, r, code, c.q, c.r)
		}
	}
}

// TestSumForPremiumExamples has sums that a program in another language has reckoned; the sum 0 is none.
func TestSumForPremiumExamples(t *testing.T) {
	x := table(60, 100, 90, 72, 36, 0)
	for _, c := range []struct {
		x             impl.LifeTable
		rate          int64
		p             impl.Policy
		premium, want int64
	}{
		{table(60, 100, 90, 0), 40, policy(impl.AssureLife, 60, 0, 1, 100), 5474, 9999},
		{table(60, 100, 90, 0), 40, policy(impl.AssureLife, 60, 0, 1, 100), 5475, 10001},
		{table(60, 100, 90, 0), 40, policy(impl.AssureLife, 60, 0, 1, 100), 5476, 10003},
		{x, 40, policy(impl.AssureLife, 60, 0, 1, 100), 3435, 9997},
		{x, 40, policy(impl.AssureLife, 60, 0, 1, 100), 3436, 10000},
		{x, 40, policy(impl.AssureLife, 60, 0, 1, 100), 3437, 10003},
		{x, 40, policy(impl.AssureLife, 60, 0, 1, 100), 3438, 10007},
		{x, 40, policy(impl.AssureTerm, 60, 2, 1, 100), 1548, 9995},
		{x, 40, policy(impl.AssureTerm, 60, 2, 1, 100), 1549, 10002},
		{x, 40, policy(impl.AssureEndowment, 60, 3, 1, 100), 3923, 9999},
		{x, 40, policy(impl.AssureEndowment, 60, 3, 1, 100), 3924, 10001},
		{x, 40, policy(impl.AssureEndowment, 60, 3, 1, 100), 3925, 10004},
		{x, 40, policy(impl.AssurePure, 60, 3, 1, 100), 1391, 9996},
		{x, 40, policy(impl.AssurePure, 60, 3, 1, 100), 1392, 10004},
		{x, 40, policy(impl.AssureEndowment, 63, 1, 1, 100), 10578, 10000},
		// No load, and the greatest one.
		{x, 40, policy(impl.AssureLife, 60, 0, 1, 0), 1, 3},
		{x, 40, policy(impl.AssureLife, 60, 0, 1, 0), 2, 6},
		{x, 40, policy(impl.AssureLife, 60, 0, 1, 0), 3122, 9997},
		{x, 40, policy(impl.AssureLife, 60, 0, 1, 0), 3123, 10000},
		{x, 40, policy(impl.AssureLife, 60, 0, 1, 0), 3124, 10003},
		{x, 40, policy(impl.AssureLife, 60, 0, 1, 1000), 2, 3},
		{x, 40, policy(impl.AssureLife, 60, 0, 1, 1000), 3, 3},
		{x, 40, policy(impl.AssureLife, 60, 0, 1, 1000), 4, 6},
		{x, 40, policy(impl.AssureLife, 60, 0, 1, 1000), 5, 6},
		{x, 40, policy(impl.AssureLife, 60, 0, 1, 1000), 6245, 9997},
		{x, 40, policy(impl.AssureLife, 60, 0, 1, 1000), 6246, 10000},
		{x, 40, policy(impl.AssureLife, 60, 0, 1, 1000), 6247, 10000},
		// Loads that are rounded up.
		{x, 0, policy(impl.AssureTerm, 60, 1, 1, 1), 2, 10},
		{x, 0, policy(impl.AssureTerm, 60, 1, 1, 1), 1000, 9990},
		{x, 0, policy(impl.AssureTerm, 60, 1, 1, 1), 1001, 10000},
		{x, 0, policy(impl.AssureTerm, 60, 1, 1, 1), 1002, 10000},
		{x, 0, policy(impl.AssureTerm, 60, 1, 1, 1), 1003, 10010},
		{x, 0, policy(impl.AssureLife, 63, 0, 1, 1), 2, 1},
		{x, 0, policy(impl.AssureLife, 63, 0, 1, 1), 3, 2},
		{x, 0, policy(impl.AssureLife, 63, 0, 1, 1), 1000, 999},
		{x, 0, policy(impl.AssureLife, 63, 0, 1, 1), 1001, 1000},
		{x, 0, policy(impl.AssureLife, 63, 0, 1, 1), 1002, 1000},
		{x, 0, policy(impl.AssureLife, 63, 0, 1, 1), 1003, 1001},
		// The Sum 1, and a little more.
		{x, 40, policy(impl.AssureEndowment, 63, 1, 1, 0), 1, 1},
		{x, 40, policy(impl.AssureEndowment, 63, 1, 1, 0), 2, 2},
		{x, 40, policy(impl.AssureEndowment, 63, 1, 1, 0), 25, 26},
		{x, 40, policy(impl.AssureEndowment, 63, 1, 1, 0), 26, 27},
		{x, 0, policy(impl.AssureLife, 63, 0, 1, 0), 1, 1},
		{x, 0, policy(impl.AssureLife, 63, 0, 1, 0), 2, 2},
		{x, 0, policy(impl.AssureLife, 63, 0, 1, 1000), 2, 1},
		{x, 0, policy(impl.AssureLife, 63, 0, 1, 1000), 3, 1},
		{x, 0, policy(impl.AssureLife, 63, 0, 1, 1000), 4, 2},
		{x, 0, policy(impl.AssureEndowment, 60, 1, 1, 999), 2, 1},
		{x, 0, policy(impl.AssureEndowment, 60, 1, 1, 999), 3, 1},
		{x, 0, policy(impl.AssureEndowment, 60, 1, 1, 999), 4, 2},
		{x, 0, policy(impl.AssureTerm, 60, 1, 1, 0), 1, 10},
		{x, 0, policy(impl.AssureTerm, 60, 1, 1, 0), 2, 20},
		// The greatest Sum and a little less, with premiums that are just enough for it, and more.
		{x, 0, policy(impl.AssureLife, 63, 0, 1, 0), maxSum - 1, maxSum - 1},
		{x, 0, policy(impl.AssureLife, 63, 0, 1, 0), maxSum, maxSum},
		{x, 0, policy(impl.AssureLife, 63, 0, 1, 1), maxSum - 1, 99900098},
		{x, 0, policy(impl.AssureLife, 63, 0, 1, 1), maxSum, 99900099},
		{x, 40, policy(impl.AssureLife, 60, 0, 1, 0), 31227981, 99999998},
		{x, 40, policy(impl.AssureLife, 60, 0, 1, 0), 31227982, maxSum},
		{x, 40, policy(impl.AssureLife, 60, 0, 1, 0), 31227983, maxSum},
		{x, 40, policy(impl.AssureLife, 60, 0, 1, 0), maxSum, maxSum},
		{x, 40, policy(impl.AssureLife, 60, 0, 1, 1000), 62455963, 99999998},
		{x, 40, policy(impl.AssureLife, 60, 0, 1, 1000), 62455964, maxSum},
		{x, 40, policy(impl.AssureLife, 60, 0, 1, 1000), 62455965, maxSum},
		{x, 40, policy(impl.AssureLife, 60, 0, 1, 1000), maxSum, maxSum},
		{x, 40, policy(impl.AssureEndowment, 60, 3, 1, 80), 38515938, maxSum - 1},
		{x, 40, policy(impl.AssureEndowment, 60, 3, 1, 80), 38515939, maxSum},
		{x, 40, policy(impl.AssureEndowment, 60, 3, 1, 80), 38515940, maxSum},
		{x, impl.MaxRate, policy(impl.AssureTerm, 60, 2, 1, 80), 12867646, maxSum},
		{x, impl.MaxRate, policy(impl.AssureTerm, 60, 2, 1, 80), 12867647, maxSum},
		{x, impl.MaxRate, policy(impl.AssureTerm, 60, 2, 1, 80), maxSum, maxSum},
		{lateTable, impl.MaxRate, policy(impl.AssureEndowment, 100, 50, 1, 80), 1978, 99968080},
		{lateTable, impl.MaxRate, policy(impl.AssureEndowment, 100, 50, 1, 80), 1979, maxSum},
		{lateTable, impl.MaxRate, policy(impl.AssureEndowment, 100, 50, 1, 80), maxSum, maxSum},
		// Premiums at the limit.
		{x, 0, policy(impl.AssureLife, 63, 0, 1, 1000), maxSum - 1, 49999999},
		{x, 0, policy(impl.AssureLife, 63, 0, 1, 1000), maxSum, 50000000},
		{x, 0, policy(impl.AssureLife, 63, 0, 1, 80), maxSum - 1, 92592591},
		{x, 0, policy(impl.AssureLife, 63, 0, 1, 80), maxSum, 92592592},
		{x, 40, policy(impl.AssureEndowment, 63, 1, 1, 1000), maxSum - 1, 51999998},
		{x, 40, policy(impl.AssureEndowment, 63, 1, 1, 1000), maxSum, 52000000},
		{table(0, 1, 0), impl.MaxRate, policy(impl.AssureEndowment, 0, 1, 1, 1000), maxSum, 60000000},
		{longTable, 0, policy(impl.AssureEndowment, 31, 119, 1, 1000), maxSum, maxSum},
		// Sums that cost nothing.
		{x, 40, policy(impl.AssurePure, 60, 4, 1, 1000), 1, maxSum},
		{x, 40, policy(impl.AssurePure, 60, 4, 1, 1000), maxSum, maxSum},
		{longTable, 0, policy(impl.AssureTerm, 31, 118, 1, 1000), 1, maxSum},
		{longTable, 0, policy(impl.AssureTerm, 31, 118, 1, 1000), maxSum, maxSum},
		{longTable, impl.MaxRate, policy(impl.AssureLife, 31, 0, 1, 80), 1, maxSum},
		{longTable, impl.MaxRate, policy(impl.AssureLife, 31, 0, 1, 80), 2, maxSum},
		{longTable, impl.MaxRate, policy(impl.AssureLife, 31, 0, 1, 80), maxSum, maxSum},
		{slowLives, 40, policy(impl.AssurePure, 0, 119, 1, 0), 1, maxSum},
		// No Sum costs so little.
		{x, 40, policy(impl.AssureLife, 60, 0, 1, 1), 1, 0},
		{x, 40, policy(impl.AssureTerm, 60, 2, 1, 80), 1, 0},
		{x, 0, policy(impl.AssureEndowment, 60, 2, 1, 1000), 1, 0},
		{longTable, impl.MaxRate, policy(impl.AssurePure, 31, 107, 1, 1), 1, 0},
		{longTable, impl.MaxRate, policy(impl.AssurePure, 31, 107, 1, 1), 2, maxSum},
	} {
		b := basis(c.x, c.rate)
		// Sum of the policy does not matter.
		for _, sum := range []int64{1, 10000, maxSum} {
			p := c.p
			p.Sum = sum
			if c.want == 0 {
				checkNoSum(t, b, p, c.premium, impl.ErrNotFound)
			} else if n, code := impl.SumForPremium(b, p, c.premium); n != c.want || code != impl.ErrNone {
				t.Errorf("SumForPremium(%v, %v, %d) = %d, %d; want %d", b, p, c.premium, n, code, c.want)
			}
		}
	}
}

// isValidByHand reports whether a policy is valid for a life table with some columns, age by age as the document tells it.
func isValidByHand(x impl.LifeTable, p impl.Policy, columns []impl.Columns) bool {
	if p.Kind < 0 || p.Kind > 3 || p.Age < x.First || p.Age > impl.MaxAge || p.Years < 0 || p.Years > impl.MaxYears || p.Age+p.Years > impl.MaxAge {
		return false
	}
	if (p.Kind == impl.AssureLife) != (p.Years == 0) || p.Sum < 1 || p.Sum > maxSum || p.Load < 0 || p.Load > maxLoad {
		return false
	}
	for age := p.Age; age < p.Age+p.Years; age++ {
		if columns[age-x.First].D == 0 {
			return false
		}
	}
	return columns[p.Age-x.First].D != 0
}

// fractionsOf returns, from the columns, the numerator of the value of a policy, that of its payments, and D at Age.
func fractionsOf(x impl.LifeTable, p impl.Policy, columns []impl.Columns) (numerator, payments, d int64) {
	now, later := columns[p.Age-x.First], columns[p.Age+p.Years-x.First]
	return kinds[p.Kind].numerator(now, later), kinds[p.Kind].payments(now, later), now.D
}

// sumByHand returns the greatest sum for a premium, or 0, without a search: with the load, the greatest net premium is
// 1000 / (1000 + Load) of the premium, rounded down, and the greatest sum is found from what its payments are worth.
func sumByHand(p impl.Policy, premium, numerator, payments int64) int64 {
	if numerator == 0 {
		return maxSum
	}
	net := new(big.Int).Div(product(premium, 1000), big.NewInt(1000+p.Load))
	sum := net.Mul(net, big.NewInt(payments)).Div(net, big.NewInt(numerator))
	if sum.Cmp(big.NewInt(maxSum)) > 0 {
		return maxSum
	}
	return sum.Int64()
}

// checkPolicy compares all that is told about a valid policy with what is found by hand.
func checkPolicy(t *testing.T, b impl.Basis, p impl.Policy, columns []impl.Columns, premiums ...int64) {
	t.Helper()
	numerator, payments, d := fractionsOf(b.Table, p, columns)
	if !impl.IsPolicy(b, p) {
		t.Errorf("IsPolicy(%v, %v) is false", b, p)
	}
	net, code := impl.NetPremium(b, p)
	if !isUp(net, product(p.Sum, numerator), big.NewInt(payments)) || code != impl.ErrNone {
		t.Errorf("NetPremium(%v, %v) = %d, %d; the numerator is %d, that of the payments %d", b, p, net, code, numerator, payments)
	}
	office, code := impl.OfficePremium(b, p)
	if !isUp(office-net, product(net, p.Load), big.NewInt(1000)) || code != impl.ErrNone {
		t.Errorf("OfficePremium(%v, %v) = %d, %d; the net premium is %d", b, p, office, code, net)
	}
	duration := p.Years
	if p.Kind == impl.AssureLife {
		duration = endOf(b.Table) - p.Age
	}
	if n, code := impl.DurationOf(b, p); n != duration || code != impl.ErrNone {
		t.Errorf("DurationOf(%v, %v) = %d, %d; want %d", b, p, n, code, duration)
	}
	q, r, code := impl.PremiumGain(b, p)
	gain := new(big.Int).Sub(product(net, payments), product(p.Sum, numerator))
	if told := new(big.Int).Add(product(q, d), big.NewInt(r)); told.Cmp(gain) != 0 || r < 0 || r >= d || code != impl.ErrNone {
		t.Errorf("PremiumGain(%v, %v) = %d, %d, %d; the gain is %v / %d", b, p, q, r, code, gain, d)
	}
	for _, premium := range premiums {
		want, wantCode := sumByHand(p, premium, numerator, payments), int64(impl.ErrNone)
		if want == 0 {
			wantCode = impl.ErrNotFound
		}
		if sum, code := impl.SumForPremium(b, p, premium); sum != want || code != wantCode {
			t.Errorf("SumForPremium(%v, %v, %d) = %d, %d; want %d, %d", b, p, premium, sum, code, want, wantCode)
		}
	}
}

// someAges are ages of a table with lives: about the first one, about the last one, and between them.
func someAges(x impl.LifeTable) []int64 {
	first, last := x.First, endOf(x)-1
	list := []int64{first, min(first+1, last), (first + last) / 2, max(first, last-1), last}
	slices.Sort(list)
	return slices.Compact(list)
}

// yearsOfPolicy are numbers of Years about the least and the greatest ones, and about the end of a table, of which not all
// are allowed.
func yearsOfPolicy(x impl.LifeTable, age int64) []int64 {
	left := endOf(x) - age
	list := []int64{-1, 0, 1, 2, left - 1, left, left + 1, impl.MaxAge - age, impl.MaxAge - age + 1, impl.MaxYears - 1, impl.MaxYears, impl.MaxYears + 1}
	slices.Sort(list)
	return slices.Compact(list)
}

func TestPoliciesByHand(t *testing.T) {
	random := rand.New(rand.NewSource(101))
	valid, not := 0, 0
	for _, x := range append(sampleTables(), longTable, lateTable) {
		for _, rate := range []int64{0, 1, 40, 1 + random.Int63n(impl.MaxRate), impl.MaxRate} {
			b, columns := basis(x, rate), columnsByHand(x, discountsByHand(rate))
			for _, age := range append(someAges(x), x.First-1, endOf(x), endOf(x)+1, impl.MaxAge, impl.MaxAge+1) {
				for kind := int64(-1); kind <= 4; kind++ {
					for _, years := range yearsOfPolicy(x, age) {
						p := policy(kind, age, years, 1+random.Int63n(maxSum), random.Int63n(maxLoad+1))
						p.Sum = []int64{1, 1 + random.Int63n(1000), p.Sum, maxSum}[random.Intn(4)]
						if !isValidByHand(x, p, columns) {
							checkNoPolicy(t, b, p)
							not++
							continue
						}
						checkPolicy(t, b, p, columns, []int64{1, 2, 3, 1 + random.Int63n(1000), 1 + random.Int63n(maxPremium), maxPremium}[random.Intn(6)])
						valid++
					}
				}
			}
		}
	}
	if valid < 1000 || not < 1000 {
		t.Errorf("%d policies that are valid and %d others were tried", valid, not)
	}
}

// TestPoliciesAtAllRates has the ages about which the discounts come to 0, with lives left.
func TestPoliciesAtAllRates(t *testing.T) {
	valid, not := 0, 0
	for rate := range int64(impl.MaxRate + 1) {
		b, columns := basis(longTable, rate), columnsByHand(longTable, discountsByHand(rate))
		for age := int64(136); age < 150; age++ {
			for _, k := range kinds {
				for years := min(k.kind, 1); years <= 4; years++ {
					p := policy(k.kind, age, years, 12345, 80)
					if isValidByHand(longTable, p, columns) {
						checkPolicy(t, b, p, columns, 1000)
						valid++
					} else {
						checkNoPolicy(t, b, p)
						not++
					}
				}
			}
		}
	}
	if valid < 1000 || not < 1000 {
		t.Errorf("%d policies that are valid and %d others were tried", valid, not)
	}
}

// Each of these functions points to a number of a policy.
func kindOf(p *impl.Policy) *int64  { return &p.Kind }
func ageOf(p *impl.Policy) *int64   { return &p.Age }
func yearsOf(p *impl.Policy) *int64 { return &p.Years }
func sumOf(p *impl.Policy) *int64   { return &p.Sum }
func loadOf(p *impl.Policy) *int64  { return &p.Load }

// TestLimitsOfPolicies has one number of a valid policy at its limits, and one beyond.
func TestLimitsOfPolicies(t *testing.T) {
	x := table(60, 100, 90, 72, 36, 0)
	for _, c := range []struct {
		x            impl.LifeTable
		rate         int64
		p            impl.Policy
		number       func(p *impl.Policy) *int64
		least, great int64
	}{
		// The Sum and the Load of each kind.
		{x, 40, policy(impl.AssureLife, 60, 0, 10000, 80), sumOf, 1, maxSum},
		{x, 40, policy(impl.AssureTerm, 60, 4, 10000, 80), sumOf, 1, maxSum},
		{x, 40, policy(impl.AssureEndowment, 60, 1, 10000, 80), sumOf, 1, maxSum},
		{x, 40, policy(impl.AssurePure, 61, 2, 10000, 80), sumOf, 1, maxSum},
		{x, 40, policy(impl.AssureLife, 60, 0, 10000, 80), loadOf, 0, maxLoad},
		{x, 40, policy(impl.AssureTerm, 60, 4, 10000, 80), loadOf, 0, maxLoad},
		{x, 40, policy(impl.AssureEndowment, 60, 1, 10000, 80), loadOf, 0, maxLoad},
		{x, 40, policy(impl.AssurePure, 61, 2, 10000, 80), loadOf, 0, maxLoad},
		// The kinds without years and with some.
		{x, 40, policy(impl.AssureLife, 60, 0, 10000, 80), kindOf, impl.AssureLife, impl.AssureLife},
		{x, 40, policy(impl.AssureTerm, 60, 1, 10000, 80), kindOf, impl.AssureTerm, impl.AssurePure},
		// The ages from First to the last one with lives, also with years.
		{x, 40, policy(impl.AssureLife, 60, 0, 10000, 80), ageOf, 60, 63},
		{x, 40, policy(impl.AssureTerm, 60, 1, 10000, 80), ageOf, 60, 63},
		{x, 40, policy(impl.AssureEndowment, 60, 2, 10000, 80), ageOf, 60, 62},
		{x, 40, policy(impl.AssurePure, 60, 4, 10000, 80), ageOf, 60, 60},
		{slowLives, 40, policy(impl.AssureLife, 60, 0, 10000, 80), ageOf, 0, 118},
		{longTable, 0, policy(impl.AssureLife, 60, 0, 10000, 80), ageOf, 31, 149},
		{lateTable, 0, policy(impl.AssureEndowment, 100, 1, 10000, 80), ageOf, 100, 149},
		// The years: up to the last ones with lives, or with a discount.
		{x, 40, policy(impl.AssureTerm, 60, 1, 10000, 80), yearsOf, 1, 4},
		{x, 40, policy(impl.AssureEndowment, 62, 1, 10000, 80), yearsOf, 1, 2},
		{x, 40, policy(impl.AssurePure, 63, 1, 10000, 80), yearsOf, 1, 1},
		{x, 40, policy(impl.AssureLife, 60, 0, 10000, 80), yearsOf, 0, 0},
		{slowLives, 40, policy(impl.AssureEndowment, 0, 1, 10000, 80), yearsOf, 1, 119},
		{level(31, 7, 120), 40, policy(impl.AssureTerm, 31, 1, 10000, 80), yearsOf, 1, 119},
		{longTable, impl.MaxRate, policy(impl.AssureLife, 60, 0, 10000, 80), ageOf, 31, 138},
		{longTable, impl.MaxRate, policy(impl.AssureEndowment, 31, 1, 10000, 80), yearsOf, 1, 108},
		{longTable, impl.MaxRate, policy(impl.AssureTerm, 137, 1, 10000, 80), yearsOf, 1, 2},
		{longTable, impl.MaxRate, policy(impl.AssurePure, 138, 1, 10000, 80), yearsOf, 1, 1},
		// Age + Years at MaxAge.
		{longTable, 0, policy(impl.AssureTerm, 31, 1, 10000, 80), yearsOf, 1, 119},
		{lateTable, 0, policy(impl.AssureEndowment, 100, 1, 10000, 80), yearsOf, 1, 50},
		{lateTable, impl.MaxRate, policy(impl.AssurePure, 140, 1, 10000, 80), yearsOf, 1, 10},
		{lateTable, 40, policy(impl.AssureTerm, 149, 1, 10000, 80), yearsOf, 1, 1},
	} {
		b, columns := basis(c.x, c.rate), columnsByHand(c.x, discountsByHand(c.rate))
		number := c.number(&c.p)
		for _, n := range []int64{c.least, (c.least + c.great) / 2, c.great} {
			*number = n
			checkPolicy(t, b, c.p, columns, 1, 5475, maxPremium)
		}
		for _, n := range []int64{c.least - 1, c.great + 1, -c.great - 1, 1<<32 + c.least, c.great + 1<<40, math.MinInt64, math.MinInt64 + 1, math.MaxInt64 - 1, math.MaxInt64} {
			*number = n
			checkNoPolicy(t, b, c.p)
		}
	}
}

// TestWrongNumbersOfPolicies has one number that is not in its range, or two.
func TestWrongNumbersOfPolicies(t *testing.T) {
	for _, x := range append(sampleTables(), longTable, lateTable) {
		for _, k := range kinds {
			p := policy(k.kind, x.First, min(k.kind, 1), 10000, 80)
			for _, rate := range noRates {
				checkNoPolicy(t, basis(x, rate), p)
			}
			for _, rate := range []int64{0, 40, impl.MaxRate} {
				b := basis(x, rate)
				if !impl.IsPolicy(b, p) {
					t.Errorf("IsPolicy(%v, %v) is false", b, p)
				}
				wrong := []impl.Policy{}
				for _, n := range noKinds {
					wrong = append(wrong, policy(n, p.Age, p.Years, p.Sum, p.Load), policy(n, p.Age, 1-p.Years, p.Sum, p.Load))
				}
				for _, n := range append(wrongAges(x), endOf(x), impl.MaxAge) {
					wrong = append(wrong, policy(p.Kind, n, p.Years, p.Sum, p.Load))
				}
				for _, n := range wrongYearsOfKind(p.Kind, p.Age) {
					wrong = append(wrong, policy(p.Kind, p.Age, n, p.Sum, p.Load))
				}
				for i, n := range noSums {
					wrong = append(wrong, policy(p.Kind, p.Age, p.Years, n, p.Load), policy(p.Kind, p.Age, p.Years, n, noLoads[i]))
				}
				for _, n := range noLoads {
					wrong = append(wrong, policy(p.Kind, p.Age, p.Years, p.Sum, n))
				}
				for _, p := range append(wrong, impl.Policy{}) {
					checkNoPolicy(t, b, p)
				}
			}
		}
	}
}

// TestPoliciesUpToTheEnd has policies whose last year is the last one with D, and one year more, for all ages; lives are
// left behind it in the last table only.
func TestPoliciesUpToTheEnd(t *testing.T) {
	for _, c := range []struct {
		x          impl.LifeTable
		rate, last int64
	}{
		{table(60, 100, 90, 72, 36, 0), 40, 63},
		{table(60, 100, 90, 72, 36, 0), 0, 63},
		{table(0, 1, 0), 40, 0},
		{table(100, 7, 7, 7, 0), impl.MaxRate, 102},
		{slowLives, 0, 118},
		{slowTable(20, 5, 120), 0, 138},
		{lateTable, impl.MaxRate, 149},
		{longTable, 0, 149},
		{longTable, impl.MaxRate, 138},
	} {
		b := basis(c.x, c.rate)
		for age := c.x.First; age <= impl.MaxAge; age++ {
			if got := impl.IsPolicy(b, policy(impl.AssureLife, age, 0, 1, 0)); got != (age <= c.last) {
				t.Errorf("IsPolicy(%v, %d) = %v for life", b, age, got)
			}
			for _, k := range kinds[1:] {
				for years := int64(1); years <= impl.MaxYears+1; years++ {
					if got := impl.IsPolicy(b, policy(k.kind, age, years, 1, 0)); got != (age+years-1 <= c.last) {
						t.Errorf("IsPolicy(%v, %d, %d) = %v for %s", b, age, years, got, k.name)
					}
				}
			}
		}
	}
}

// TestNetPremiumsAreWorthTheBenefits checks promise 10: a net premium is worth the benefits and less than a cent more for
// each payment.
func TestNetPremiumsAreWorthTheBenefits(t *testing.T) {
	even, rounded := 0, 0
	byChance(102, maxSum, func(random *rand.Rand, x impl.LifeTable, rate, age, amount int64) {
		b := basis(x, rate)
		for _, k := range kinds {
			for _, years := range yearsOfKind(k.kind, x, age) {
				p := policy(k.kind, age, years, []int64{1, 1 + amount%1000, amount, maxSum}[random.Intn(4)], random.Int63n(maxLoad+1))
				net, code := impl.NetPremium(b, p)
				if !impl.IsPolicy(b, p) {
					checkNoPolicy(t, b, p)
					continue
				}
				// The benefits, all payments of a cent, and all net premiums are worth so many parts of D.
				numerator, d, _ := impl.AssuranceNumber(x, rate, k.kind, age, years)
				now, _ := impl.ColumnsAt(x, rate, age)
				later, _ := impl.ColumnsAt(x, rate, age+years)
				cents := k.payments(now, later)
				benefits, premiums := product(p.Sum, numerator), product(net, cents)
				more := new(big.Int).Sub(premiums, benefits)
				if more.Sign() < 0 || more.Cmp(big.NewInt(cents)) >= 0 || code != impl.ErrNone {
					t.Errorf("NetPremium(%v, %v) = %d, %d: worth %v, and the benefits %v, parts of %d", b, p, net, code, premiums, benefits, d)
				}
				// The gain is just what a premium is worth more than the benefits.
				q, r, code := impl.PremiumGain(b, p)
				duration, _ := impl.DurationOf(b, p)
				if gain := new(big.Int).Add(product(q, d), big.NewInt(r)); gain.Cmp(more) != 0 || q < 0 || q >= duration || code != impl.ErrNone {
					t.Errorf("PremiumGain(%v, %v) = %d, %d, %d; %v parts of %d are gained in %d years", b, p, q, r, code, more, d, duration)
				}
				if more.Sign() == 0 {
					even++
				} else {
					rounded++
				}
			}
		}
	})
	if even == 0 || rounded == 0 {
		t.Errorf("%d premiums that are even and %d others were tried", even, rounded)
	}
}

// TestNetPremiumsAreLevelPremiums compares with what chapter 7 tells about a valid assurance.
func TestNetPremiumsAreLevelPremiums(t *testing.T) {
	byChance(103, maxSum, func(random *rand.Rand, x impl.LifeTable, rate, age, amount int64) {
		for _, k := range kinds {
			for _, years := range yearsOfKind(k.kind, x, age) {
				b, p := basis(x, rate), policy(k.kind, age, years, amount, random.Int63n(maxLoad+1))
				want, _ := impl.LevelPremium(x, rate, k.kind, age, years, amount)
				if n, code := impl.NetPremium(b, p); impl.IsPolicy(b, p) && (n != want || code != impl.ErrNone) {
					t.Errorf("NetPremium(%v, %v) = %d, %d; want %d", b, p, n, code, want)
				}
			}
		}
	})
}

// TestSumsByTheirPremiums asks for the office premiums of the sum that is found for a premium, and of the next one.
func TestSumsByTheirPremiums(t *testing.T) {
	found := map[string]int{}
	byChance(104, maxPremium, func(random *rand.Rand, x impl.LifeTable, rate, age, premium int64) {
		b, kind := basis(x, rate), random.Int63n(4)
		for _, years := range yearsOfKind(kind, x, age) {
			p := policy(kind, age, years, 1+random.Int63n(maxSum), []int64{0, 1, random.Int63n(maxLoad), maxLoad}[random.Intn(4)])
			if !impl.IsPolicy(b, p) {
				continue
			}
			for _, premium := range []int64{1, 2, 1 + premium%1000, premium, maxPremium} {
				sum, code := impl.SumForPremium(b, p, premium)
				next, this := p, p
				next.Sum, this.Sum = sum+1, sum
				more, _ := impl.OfficePremium(b, next)
				paid, _ := impl.OfficePremium(b, this)
				switch {
				case code == impl.ErrNotFound && sum == 0 && more > premium:
					found["none"]++
				case code == impl.ErrNone && sum == maxSum && paid <= premium:
					found["greatest"]++
				case code == impl.ErrNone && sum >= 1 && sum < maxSum && paid == premium && more > premium:
					found["just"]++
				case code == impl.ErrNone && sum >= 1 && sum < maxSum && paid < premium && more > premium:
					found["less"]++
				default:
					t.Errorf("SumForPremium(%v, %v, %d) = %d, %d; the office premium is %d for it, and %d for the next one", b, p, premium, sum, code, paid, more)
				}
			}
		}
	})
	for _, name := range []string{"none", "greatest", "just", "less"} {
		if found[name] == 0 {
			t.Errorf("sums that were tried: %v", found)
		}
	}
}

// TestSumsOneByOne goes through all small premiums and finds their sums one by one.
func TestSumsOneByOne(t *testing.T) {
	x := table(60, 100, 90, 72, 36, 0)
	for _, rate := range []int64{0, 40, impl.MaxRate} {
		b := basis(x, rate)
		for _, k := range kinds {
			for _, load := range []int64{0, 1, 80, 500, 999, maxLoad} {
				p := policy(k.kind, 60, min(k.kind, 1)*3, 1, load)
				sum := int64(0)
				for premium := int64(1); premium <= 60; premium++ {
					for p.Sum = sum + 1; ; p.Sum++ {
						if office, _ := impl.OfficePremium(b, p); office > premium {
							break
						}
						sum = p.Sum
					}
					p.Sum = 777
					if sum == 0 {
						checkNoSum(t, b, p, premium, impl.ErrNotFound)
					} else if n, code := impl.SumForPremium(b, p, premium); n != sum || code != impl.ErrNone {
						t.Errorf("SumForPremium(%v, %v, %d) = %d, %d; want %d", b, p, premium, n, code, sum)
					}
				}
			}
		}
	}
}

// TestPremiumsOutOfRange has premiums at their limits, and one beyond; policies for which no sum is found at all, too.
func TestPremiumsOutOfRange(t *testing.T) {
	for _, x := range append(sampleTables(), longTable, lateTable) {
		for _, rate := range []int64{0, 40, impl.MaxRate} {
			for _, k := range kinds {
				for _, load := range []int64{0, 1, maxLoad} {
					b, p := basis(x, rate), policy(k.kind, x.First, min(k.kind, 1), 12345, load)
					for _, premium := range noPremiums {
						checkNoSum(t, b, p, premium, impl.ErrRange)
					}
					for _, premium := range []int64{1, maxPremium} {
						if _, code := impl.SumForPremium(b, p, premium); code == impl.ErrRange {
							t.Errorf("SumForPremium(%v, %v, %d): code %d", b, p, premium, code)
						}
					}
				}
			}
		}
	}
}

// TestNoBasisForPolicies has life tables that are none, also besides other numbers that are wrong.
func TestNoBasisForPolicies(t *testing.T) {
	for name, x := range noTables() {
		t.Run(name, func(t *testing.T) {
			for _, rate := range []int64{0, 40, impl.MaxRate, -1, impl.MaxRate + 1} {
				for _, age := range append(wrongAges(x), x.First, 60, 61, 100, 150) {
					for kind := int64(-1); kind <= 4; kind++ {
						for _, years := range []int64{0, 1, impl.MaxYears, -1, math.MaxInt64} {
							checkNoPolicy(t, basis(x, rate), policy(kind, age, years, 10000, 80))
							checkNoPolicy(t, basis(x, rate), policy(kind, age, years, 0, maxLoad+1))
						}
					}
				}
			}
		})
	}
}

// policyTexts are policies with their texts; most of them are valid for no basis.
var policyTexts = []struct {
	p impl.Policy
	s string
}{
	{policy(2, 30, 20, 50000, 80), "2,30,20,50000,80"},
	{policy(0, 60, 0, 10000, 100), "0,60,0,10000,100"},
	{policy(1, 2, 3, 4, 5), "1,2,3,4,5"},
	{policy(3, 100, 50, maxSum, maxLoad), "3,100,50,100000000,1000"},
	{impl.Policy{}, "0,0,0,0,0"},
	{policy(-1, -2, -3, -4, -5), "-1,-2,-3,-4,-5"},
	{policy(4, 151, 121, 0, 1001), "4,151,121,0,1001"},
	{policy(-10, 0, 10, -100, 9), "-10,0,10,-100,9"},
	{policy(impl.MaxMoney, 0, 0, 0, 0), "1000000000000,0,0,0,0"},
	{policy(0, impl.MaxMoney, 0, 0, 0), "0,1000000000000,0,0,0"},
	{policy(0, 0, impl.MaxMoney, 0, 0), "0,0,1000000000000,0,0"},
	{policy(0, 0, 0, impl.MaxMoney, 0), "0,0,0,1000000000000,0"},
	{policy(0, 0, 0, 0, impl.MaxMoney), "0,0,0,0,1000000000000"},
	{policy(-impl.MaxMoney, 1, 2, 3, 4), "-1000000000000,1,2,3,4"},
	{policy(1, -impl.MaxMoney, 2, 3, 4), "1,-1000000000000,2,3,4"},
	{policy(1, 2, -impl.MaxMoney, 3, 4), "1,2,-1000000000000,3,4"},
	{policy(1, 2, 3, -impl.MaxMoney, 4), "1,2,3,-1000000000000,4"},
	{policy(1, 2, 3, 4, -impl.MaxMoney), "1,2,3,4,-1000000000000"},
	{policy(impl.MaxMoney, -impl.MaxMoney, impl.MaxMoney-1, 1-impl.MaxMoney, 999999999), "1000000000000,-1000000000000,999999999999,-999999999999,999999999"},
}

func TestPolicyTexts(t *testing.T) {
	for _, c := range policyTexts {
		if s := impl.PolicyText(c.p); s != c.s {
			t.Errorf("PolicyText(%v) = %q; want %q", c.p, s, c.s)
		}
		if p, ok := impl.ReadPolicy(c.s); p != c.p || !ok {
			t.Errorf("ReadPolicy(%q) = %v, %v; want %v", c.s, p, ok, c.p)
		}
	}
}

// TestPoliciesByTheirTexts writes and reads policies that are made by chance.
func TestPoliciesByTheirTexts(t *testing.T) {
	random := rand.New(rand.NewSource(105))
	for range 5000 {
		var n [5]int64
		for i := range n {
			top := []int64{2, 100, 100000, impl.MaxMoney + 1}[random.Intn(4)]
			n[i] = random.Int63n(2*top-1) - top + 1
		}
		p, want := policy(n[0], n[1], n[2], n[3], n[4]), fmt.Sprintf("%d,%d,%d,%d,%d", n[0], n[1], n[2], n[3], n[4])
		if s := impl.PolicyText(p); s != want {
			t.Errorf("PolicyText(%v) = %q; want %q", p, s, want)
		}
		if back, ok := impl.ReadPolicy(want); back != p || !ok {
			t.Errorf("ReadPolicy(%q) = %v, %v; want %v", want, back, ok, p)
		}
	}
}

// checkNoPolicyText checks that ReadPolicy returns false and nothing else.
func checkNoPolicyText(t *testing.T, s string) {
	t.Helper()
	if p, ok := impl.ReadPolicy(s); p != (impl.Policy{}) || ok {
		t.Errorf("ReadPolicy(%.200q) = %v, %v", s, p, ok)
	}
}

// TestPoliciesWithoutText has one number that is too great or too small, and texts of just these numbers.
func TestPoliciesWithoutText(t *testing.T) {
	for _, wrong := range []int64{impl.MaxMoney + 1, -impl.MaxMoney - 1, 1 << 62, math.MinInt64, math.MinInt64 + 1, math.MaxInt64 - 1, math.MaxInt64} {
		for i := range 5 {
			n := []int64{1, 2, 3, 4, 5}
			n[i] = wrong
			if s := impl.PolicyText(policy(n[0], n[1], n[2], n[3], n[4])); s != "" {
				t.Errorf("PolicyText(%v) = %q", n, s)
			}
			checkNoPolicyText(t, fmt.Sprintf("%d,%d,%d,%d,%d", n[0], n[1], n[2], n[3], n[4]))
		}
		if s := impl.PolicyText(policy(wrong, wrong, wrong, wrong, wrong)); s != "" {
			t.Errorf("PolicyText of %d five times = %q", wrong, s)
		}
	}
}

func TestNoTextsOfPolicies(t *testing.T) {
	for _, s := range []string{
		// No numbers, too few, and too many.
		"", ",", ",,,,", ",,,,,", "x", "1", "1,2", "1,2,3", "1,2,3,4", "1,2,3,4,5,6", "1,2,3,4,5,6,7,8,9,10", "12345", "{1 2 3 4 5}", "nil",
		// Numbers that are missing, and commas too many.
		",2,3,4,5", "1,,3,4,5", "1,2,3,4,", "1,2,3,4,5,", ",1,2,3,4,5", "1,,2,3,4,5", "1,2,3,4,5,,", "1,2,3,,4", "1,2,3,4,-", "-,2,3,4,5",
		// Blanks and other things between the numbers.
		" 1,2,3,4,5", "1,2,3,4,5 ", "1, 2,3,4,5", "1 ,2,3,4,5", "1 2 3 4 5", "1,2,3,4 5", "1;2;3;4;5", "1.2.3.4.5", "1,2,3,4,5\n", "1,2,3\n,4,5", "\t1,2,3,4,5", "1,2,3,4,5\x00", "1,2,3,4,\u00a05", "1\uff0c2\uff0c3\uff0c4\uff0c5",
		// Signs and leading zeros.
		"+1,2,3,4,5", "1,2,3,+4,5", "-0,2,3,4,5", "1,2,3,4,-0", "1,2,0,-0,5", "01,2,3,4,5", "1,2,3,4,05", "1,2,-03,4,5", "1,00,3,4,5", "1,2,3,4,000", "--1,2,3,4,5", "1,2,3,4-,5", "1,-+2,3,4,5", "1,2,3,- 4,5", "1,2,3,\u22124,5",
		// Other ways to write numbers.
		"1,2,3,4,5.0", "1,2,3,4,5.", "1,2,3,1e3,5", "0x1,2,3,4,5", "1,2,3,1_000,5", "0b1,2,3,4,5", "1,2,3,4,x", "1,2,3,4,5x", "O,2,3,4,5", "1,2,3,\xff,5", "1,2,3,\u0664,5", "1,2,3,\uff14,5", "a,b,c,d,e", "1,2,3,4,nil",
		// Numbers past int64, of which some would be in their ranges if they went round.
		"9223372036854775807,2,3,4,5", "1,9223372036854775808,3,4,5", "1,2,-9223372036854775808,4,5", "1,2,-9223372036854775809,4,5", "1,2,3,18446744073709551616,5", "1,2,3,4,18446744073709551621", "1,2,3,4,-18446744073709551621",
		"1,2,3," + strings.Repeat("9", 5000) + ",5", "1,2,3," + strings.Repeat("0", 5000) + "4,5", "1,2,3,-" + strings.Repeat("9", 5000) + ",5",
	} {
		checkNoPolicyText(t, s)
	}
	checkNoPolicyText(t, strings.Repeat(",", 100000))
	checkNoPolicyText(t, "1"+strings.Repeat(",1", 100000))
	checkNoPolicyText(t, strings.Repeat(" ", 100000))
}

// policyForm is the form of a text of a policy, but for the ranges of its numbers.
var policyForm = regexp.MustCompile(`^(0|-?[1-9][0-9]{0,12})(,(0|-?[1-9][0-9]{0,12})){4}$`)

// readPolicyByHand reads a text as the document describes it.
func readPolicyByHand(s string) (impl.Policy, bool) {
	if !policyForm.MatchString(s) {
		return impl.Policy{}, false
	}
	n := [5]int64{}
	fmt.Sscanf(s, "%d,%d,%d,%d,%d", &n[0], &n[1], &n[2], &n[3], &n[4])
	for i := range n {
		if n[i] > impl.MaxMoney || n[i] < -impl.MaxMoney {
			return impl.Policy{}, false
		}
	}
	return policy(n[0], n[1], n[2], n[3], n[4]), true
}

// TestTextsNearPolicies changes texts of policies in one byte.
func TestTextsNearPolicies(t *testing.T) {
	read := 0
	check := func(s string) {
		t.Helper()
		want, isText := readPolicyByHand(s)
		if p, ok := impl.ReadPolicy(s); p != want || ok != isText {
			t.Errorf("ReadPolicy(%q) = %v, %v; want %v, %v", s, p, ok, want, isText)
		}
		if isText {
			read++
		}
	}
	for _, s := range []string{"2,30,20,50000,80", "0,0,0,0,0", "-1,1000000000000,-1000000000000,-90,100000000000", "1,2,3,4", "1,2,3,4,5,6"} {
		for i := 0; i <= len(s); i++ {
			check(s[:i])
			check(s[i:])
			for b := range 256 {
				check(s[:i] + string([]byte{byte(b)}) + s[i:])
				if i < len(s) {
					check(s[:i] + string([]byte{byte(b)}) + s[i+1:])
				}
			}
			if i < len(s) {
				check(s[:i] + s[i+1:])
			}
		}
	}
	if read < 100 {
		t.Errorf("%d texts of policies were tried", read)
	}
}

// TestTablesOfPoliciesStay has numbers before and behind the lives of a table.
func TestTablesOfPoliciesStay(t *testing.T) {
	back := []int64{700, 100, 90, 72, 36, 0, 33, 22, 11}
	b := basis(impl.LifeTable{First: 60, Lives: back[1:6]}, 40)
	for _, k := range kinds {
		p := policy(k.kind, 60, min(k.kind, 1)*2, 10000, 100)
		if !impl.IsBasis(b) || !impl.IsPolicy(b, p) {
			t.Errorf("IsPolicy(%v, %v) is false", b, p)
		}
		impl.NetPremium(b, p)
		impl.OfficePremium(b, p)
		impl.DurationOf(b, p)
		impl.PremiumGain(b, p)
		impl.SumForPremium(b, p, 5475)
	}
	if net, code := impl.NetPremium(b, policy(impl.AssureEndowment, 60, 3, 10000, 100)); net != 3567 || code != impl.ErrNone {
		t.Errorf("NetPremium = %d, %d", net, code)
	}
	if !slices.Equal(back, []int64{700, 100, 90, 72, 36, 0, 33, 22, 11}) {
		t.Errorf("an argument is changed: %v", back)
	}
}

func TestPoliciesKeepNothing(t *testing.T) {
	checkKeepsNothing(t, func(x impl.LifeTable, rate int64) string {
		b, told := basis(x, rate), []any{}
		for _, k := range kinds {
			// The same policies for all bases, of which each is valid for some.
			for _, age := range []int64{0, 60} {
				p := policy(k.kind, age, min(k.kind, 1), 10000, 80)
				net, code := impl.NetPremium(b, p)
				office, _ := impl.OfficePremium(b, p)
				q, r, _ := impl.PremiumGain(b, p)
				sum, _ := impl.SumForPremium(b, p, 5475)
				duration, _ := impl.DurationOf(b, p)
				told = append(told, net, code, office, q, r, sum, duration)
			}
		}
		return fmt.Sprint(told)
	})
}
