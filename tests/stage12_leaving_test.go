package tests

import (
	"fmt"
	"math"
	"math/big"
	"math/rand"
	"slices"
	"testing"

	"loop.example/g01025/impl"
)

// leavings are the functions of chapter 12 that tell a number about a year of a policy.
var leavings = []struct {
	name string
	ask  func(b impl.Basis, p impl.Policy, k int64) (int64, int64)
}{
	{"SurrenderValue", impl.SurrenderValue},
	{"PaidUpSum", impl.PaidUpSum},
	{"KeptYears", impl.KeptYears},
	{"LoanLimit", impl.LoanLimit},
	{"LeavingLoss", impl.LeavingLoss},
}

// leaving is what chapter 12 tells about the year k of a policy: the surrender value, the paid-up sum, the kept years, the
// loan limit and the loss.
type leaving struct{ k, value, paidUp, years, loan, loss int64 }

// checkLeaving compares what is told about one year of a policy.
func checkLeaving(t *testing.T, b impl.Basis, p impl.Policy, want leaving) {
	t.Helper()
	for i, number := range []int64{want.value, want.paidUp, want.years, want.loan, want.loss} {
		if n, code := leavings[i].ask(b, p, want.k); n != number || code != impl.ErrNone {
			t.Errorf("%s(%v, %v, %d) = %d, %d; want %d", leavings[i].name, b, p, want.k, n, code, number)
		}
	}
}

// checkNoLeaving checks that nothing is told about the year k of a policy.
func checkNoLeaving(t *testing.T, b impl.Basis, p impl.Policy, k, want int64) {
	t.Helper()
	for _, l := range leavings {
		if n, code := l.ask(b, p, k); n != 0 || code != want {
			t.Errorf("%s(%v, %v, %d) = %d, %d; want %d", l.name, b, p, k, n, code, want)
		}
	}
}

// checkBest compares the best year to leave in and its difference; beside an error both have to be 0.
func checkBest(t *testing.T, b impl.Basis, p impl.Policy, k, difference, wantCode int64) {
	t.Helper()
	if at, n, code := impl.BestLeaving(b, p); at != k || n != difference || code != wantCode {
		t.Errorf("BestLeaving(%v, %v) = %d, %d, %d; want %d, %d, %d", b, p, at, n, code, k, difference, wantCode)
	}
}

func TestLeavingConstants(t *testing.T) {
	if impl.SurrenderShare != 900 || impl.SurrenderYears != 2 || impl.LoanShare != 800 {
		t.Errorf("constants = %d, %d, %d", impl.SurrenderShare, impl.SurrenderYears, impl.LoanShare)
	}
}

// TestLeavingExamples has numbers that a program in another language has reckoned: all years of a policy, or some of them.
func TestLeavingExamples(t *testing.T) {
	x := table(60, 100, 90, 72, 36, 0)
	for _, c := range []struct {
		x                          impl.LifeTable
		rate                       int64
		p                          impl.Policy
		duration, best, difference int64
		years                      []leaving
	}{
		// Each kind, for as many years as there are lives, and for one more than SurrenderYears.
		{x, 40, policy(impl.AssureLife, 60, 0, 10000, 100), 4, 2, -2546, []leaving{
			{2, 4326, 4587, 0, 3460, 481}, {3, 5843, 6076, 0, 4674, 650},
		}},
		{x, 40, policy(impl.AssureTerm, 60, 4, 10000, 100), 4, 2, -2546, []leaving{
			{2, 4326, 4587, 0, 3460, 481}, {3, 5843, 6076, 0, 4674, 650},
		}},
		{x, 40, policy(impl.AssureEndowment, 60, 4, 10000, 100), 4, 2, -2546, []leaving{
			{2, 4326, 4587, 0, 3460, 481}, {3, 5843, 6076, 0, 4674, 650},
		}},
		{x, 40, policy(impl.AssurePure, 60, 4, 10000, 100), 4, 2, 0, []leaving{
			{2, 0, 0, 0, 0, 0}, {3, 0, 0, 0, 0, 0},
		}},
		{x, 40, policy(impl.AssureTerm, 60, 3, 10000, 80), 3, 2, -2719, []leaving{
			{2, 2255, 4690, 0, 1804, 251},
		}},
		{x, 40, policy(impl.AssureEndowment, 60, 3, 10000, 80), 3, 2, -2262, []leaving{
			{2, 5444, 5661, 1, 4355, 605},
		}},
		{x, 40, policy(impl.AssurePure, 60, 3, 10000, 0), 3, 2, 658, []leaving{
			{2, 3188, 6631, 0, 2550, 355},
		}},
		{x, 40, policy(impl.AssureLife, 61, 0, 10000, 1000), 3, 2, -12372, []leaving{
			{2, 4792, 4983, 0, 3833, 533},
		}},
		{x, 40, policy(impl.AssureEndowment, 61, 3, 10000, 80), 3, 2, -4478, []leaving{
			{2, 4792, 4983, 0, 3833, 533},
		}},
		{table(60, 100, 90, 80, 0), 40, policy(impl.AssureLife, 60, 0, 10000, 0), 3, 2, -1366, []leaving{
			{2, 5544, 5765, 0, 4435, 617},
		}},
		{table(60, 100, 90, 80, 0), 0, policy(impl.AssureTerm, 60, 3, 10000, 0), 3, 2, -1742, []leaving{
			{2, 5666, 5666, 0, 4532, 630},
		}},
		// Reserves of nothing and of a cent, shares without a remainder, sums that come out even, and years that are just paid for, cost nothing, or lack a cent.
		{table(60, 3, 2, 2, 1, 1, 1, 0), impl.MaxRate, policy(impl.AssureEndowment, 60, 6, 10, 882), 6, 2, -12, []leaving{
			{2, 0, 0, 0, 0, 1}, {3, 0, 0, 2, 0, 0}, {4, 1, 1, 1, 0, 1}, {5, 5, 6, 0, 4, 1},
		}},
		{table(60, 96, 82, 50, 45, 45, 14, 0), impl.MaxRate, policy(impl.AssureLife, 60, 0, 10, 0), 6, 2, -6, []leaving{
			{2, 0, 0, 0, 0, 0}, {3, 0, 0, 1, 0, 1}, {4, 4, 5, 0, 3, 1}, {5, 5, 6, 0, 4, 1},
		}},
		{table(60, 3, 2, 2, 1, 1, 1, 0), impl.MaxRate, policy(impl.AssureTerm, 60, 6, 1000, 80), 6, 2, -342, []leaving{
			{2, 162, 246, 0, 129, 18}, {3, 0, 0, 2, 0, 0}, {4, 241, 347, 1, 192, 27}, {5, 540, 648, 0, 432, 61},
		}},
		{table(60, 10, 9, 9, 7, 6, 0), impl.MaxRate, policy(impl.AssureEndowment, 60, 4, 1000, 81), 4, 3, -54, []leaving{
			{2, 365, 503, 2, 292, 41}, {3, 576, 691, 1, 460, 64},
		}},
		{table(60, 3, 3, 2, 2, 0), 100, policy(impl.AssureTerm, 60, 3, 1000, 0), 3, 2, -224, []leaving{
			{2, 0, 0, 1, 0, 0},
		}},
		{table(60, 3, 3, 2, 2, 1, 0), impl.MaxRate, policy(impl.AssureEndowment, 60, 5, 1, 0), 5, 2, -2, []leaving{
			{2, 0, 0, 1, 0, 0}, {3, 0, 0, 0, 0, 0}, {4, 0, 0, 0, 0, 0},
		}},
		{table(60, 9, 3, 2, 2, 0), 0, policy(impl.AssureTerm, 60, 4, 1, 0), 4, 2, -2, []leaving{
			{2, 0, 0, 1, 0, 0}, {3, 0, 0, 0, 0, 0},
		}},
		{table(60, 3, 2, 1, 1, 1, 0), 0, policy(impl.AssurePure, 60, 4, 1, 0), 4, 2, -2, []leaving{
			{2, 0, 0, 2, 0, 0}, {3, 0, 0, 1, 0, 0},
		}},
		{table(60, 2, 1, 1, 1, 1, 0), 40, policy(impl.AssureEndowment, 60, 4, 1, 784), 4, 2, -4, []leaving{
			{2, 0, 0, 2, 0, 0}, {3, 0, 0, 1, 0, 0},
		}},
		{table(60, 10, 7, 6, 5, 2, 0), impl.MaxRate, policy(impl.AssureEndowment, 60, 4, 10, 43), 4, 2, -6, []leaving{
			{2, 2, 2, 1, 1, 1}, {3, 5, 6, 1, 4, 1},
		}},
		{table(60, 10, 9, 8, 6, 5, 3, 0), 0, policy(impl.AssureLife, 60, 0, 8, 0), 6, 2, -2, []leaving{
			{2, 2, 2, 1, 1, 1}, {3, 3, 3, 1, 2, 1}, {4, 4, 4, 1, 3, 1}, {5, 5, 5, 0, 4, 1},
		}},
		{table(60, 75, 47, 19, 0), 40, policy(impl.AssureLife, 60, 0, 1, 0), 3, 2, -2, []leaving{
			{2, 0, 0, 0, 0, 0},
		}},
		{table(60, 96, 81, 49, 43, 32, 0), 40, policy(impl.AssurePure, 60, 4, 5, 80), 4, 2, -3, []leaving{
			{2, 1, 1, 1, 0, 1}, {3, 2, 2, 1, 1, 1},
		}},
		{table(60, 3, 2, 1, 1, 1, 0), 0, policy(impl.AssureTerm, 60, 4, 2, 0), 4, 2, -2, []leaving{
			{2, 0, 0, 2, 0, 0}, {3, 0, 0, 1, 0, 0},
		}},
		{table(60, 90, 73, 59, 54, 50, 0), 0, policy(impl.AssureEndowment, 60, 5, 10, 279), 5, 2, -7, []leaving{
			{2, 1, 1, 1, 0, 1}, {3, 4, 4, 1, 3, 1}, {4, 6, 6, 0, 4, 1},
		}},
		{table(60, 94, 87, 71, 67, 55, 0), impl.MaxRate, policy(impl.AssureTerm, 60, 5, 10, 80), 5, 2, -5, []leaving{
			{2, 1, 1, 1, 0, 1}, {3, 3, 4, 1, 2, 1}, {4, 6, 7, 0, 4, 1},
		}},
		// The best year at the beginning, at the end and between them, alone and with others; differences that are positive, 0 and negative.
		{table(60, 10, 9, 7, 5, 5, 2, 0), 0, policy(impl.AssurePure, 60, 5, 10, 0), 5, 2, -2, []leaving{
			{2, 0, 0, 0, 0, 1}, {3, 1, 2, 1, 0, 1}, {4, 2, 5, 0, 1, 1},
		}},
		{table(60, 10, 10, 9, 6, 6, 0), 0, policy(impl.AssurePure, 60, 5, 1, 80), 5, 2, 0, []leaving{
			{2, 0, 0, 0, 0, 0}, {3, 0, 0, 1, 0, 0}, {4, 0, 0, 0, 0, 0},
		}},
		{table(60, 10, 10, 9, 9, 8, 6, 0), impl.MaxRate, policy(impl.AssureLife, 60, 0, 10, 0), 6, 2, -4, []leaving{
			{2, 0, 0, 1, 0, 0}, {3, 1, 1, 1, 0, 1}, {4, 4, 5, 1, 3, 1}, {5, 6, 7, 0, 4, 1},
		}},
		{table(60, 3, 2, 2, 2, 2, 0), 0, policy(impl.AssurePure, 60, 4, 4754, 0), 4, 2, 262, []leaving{
			{2, 2376, 2376, 2, 1900, 264}, {3, 3327, 3327, 1, 2661, 370},
		}},
		{table(60, 9, 7, 6, 3, 1, 0), 100, policy(impl.AssureTerm, 60, 5, 3, 0), 5, 2, -2, []leaving{
			{2, 0, 0, 0, 0, 1}, {3, 1, 1, 0, 0, 1}, {4, 1, 1, 0, 0, 1},
		}},
		{table(60, 6, 5, 4, 4, 4, 3, 0), 40, policy(impl.AssurePure, 60, 5, 10, 0), 5, 3, -3, []leaving{
			{2, 0, 0, 2, 0, 1}, {3, 3, 4, 2, 2, 1}, {4, 5, 6, 1, 4, 1},
		}},
		{table(60, 10, 10, 9, 9, 7, 4, 0), 40, policy(impl.AssurePure, 60, 5, 80, 0), 5, 4, 5, []leaving{
			{2, 11, 27, 1, 8, 2}, {3, 18, 43, 1, 14, 3}, {4, 33, 60, 1, 26, 4},
		}},
		{table(60, 8, 8, 8, 5, 0), impl.MaxRate, policy(impl.AssureTerm, 60, 4, 10, 0), 4, 2, 0, []leaving{
			{2, 4, 5, 1, 3, 1}, {3, 6, 7, 0, 4, 1},
		}},
		{table(60, 8, 8, 7, 5, 0), impl.MaxRate, policy(impl.AssureLife, 60, 0, 1000, 0), 4, 2, 5, []leaving{
			{2, 387, 527, 1, 309, 43}, {3, 578, 693, 0, 462, 65},
		}},
		{table(60, 2, 2, 2, 2, 1, 0), impl.MaxRate, policy(impl.AssureEndowment, 60, 4, 10, 0), 4, 3, 0, []leaving{
			{2, 3, 4, 1, 2, 1}, {3, 6, 7, 1, 4, 1},
		}},
		{table(60, 3, 3, 2, 2, 1, 1, 0), impl.MaxRate, policy(impl.AssureEndowment, 60, 5, 32, 0), 5, 3, -4, []leaving{
			{2, 7, 10, 1, 5, 1}, {3, 14, 18, 2, 11, 2}, {4, 18, 21, 1, 14, 3},
		}},
		{table(60, 10, 9, 5, 4, 4, 3, 0), 0, policy(impl.AssurePure, 60, 5, 10, 0), 5, 3, 2, []leaving{
			{2, 3, 5, 2, 2, 1}, {3, 5, 6, 2, 4, 1}, {4, 6, 8, 1, 4, 1},
		}},
		{table(60, 5, 2, 1, 0), impl.MaxRate, policy(impl.AssurePure, 60, 3, 2, 0), 3, 2, 0, []leaving{
			{2, 0, 0, 0, 0, 0},
		}},
		{table(60, 2, 2, 2, 0), impl.MaxRate, policy(impl.AssureLife, 60, 0, 1000, 0), 3, 2, 86, []leaving{
			{2, 544, 652, 0, 435, 61},
		}},
		{table(60, 3, 3, 3, 0), impl.MaxRate, policy(impl.AssureTerm, 60, 3, 4, 0), 3, 2, 0, []leaving{
			{2, 2, 2, 0, 1, 1},
		}},
		{table(60, 10, 10, 10, 3, 0), impl.MaxRate, policy(impl.AssureLife, 60, 0, 71, 80), 4, 2, 0, []leaving{
			{2, 34, 42, 0, 27, 4}, {3, 40, 48, 0, 32, 5},
		}},
		{table(60, 3, 3, 3, 3, 1, 0), 100, policy(impl.AssureLife, 60, 0, 1000, 80), 5, 3, 2, []leaving{
			{2, 369, 460, 1, 295, 42}, {3, 584, 662, 0, 467, 65}, {4, 657, 722, 0, 525, 74},
		}},
		{table(60, 3, 3, 3, 2, 2, 0), impl.MaxRate, policy(impl.AssureTerm, 60, 5, 86, 0), 5, 2, 1, []leaving{
			{2, 27, 40, 2, 21, 4}, {3, 32, 46, 1, 25, 4}, {4, 53, 63, 0, 42, 6},
		}},
		{table(60, 3, 3, 3, 3, 2, 0), 100, policy(impl.AssureLife, 60, 0, 63, 0), 5, 3, 0, []leaving{
			{2, 19, 24, 2, 15, 3}, {3, 33, 38, 1, 26, 4}, {4, 42, 46, 0, 33, 5},
		}},
		{table(60, 8, 8, 7, 6, 1, 0), impl.MaxRate, policy(impl.AssureLife, 60, 0, 17, 0), 5, 2, 0, []leaving{
			{2, 6, 8, 1, 4, 1}, {3, 9, 11, 0, 7, 2}, {4, 10, 12, 0, 8, 2},
		}},
		{table(60, 8, 8, 5, 5, 4, 1, 0), impl.MaxRate, policy(impl.AssureTerm, 60, 6, 11, 80), 6, 2, -5, []leaving{
			{2, 1, 1, 1, 0, 1}, {3, 4, 5, 1, 3, 1}, {4, 6, 7, 0, 4, 1}, {5, 7, 8, 0, 5, 1},
		}},
		{table(60, 3, 3, 3, 3, 2, 2, 0), impl.MaxRate, policy(impl.AssureLife, 60, 0, 46, 80), 6, 3, 0, []leaving{
			{2, 11, 19, 3, 8, 2}, {3, 18, 27, 2, 14, 3}, {4, 20, 28, 1, 16, 3}, {5, 30, 36, 0, 24, 4},
		}},
		{table(60, 10, 10, 10, 9, 6, 2, 0), impl.MaxRate, policy(impl.AssureLife, 60, 0, 85, 80), 6, 2, 1, []leaving{
			{2, 25, 40, 2, 20, 3}, {3, 37, 51, 1, 29, 5}, {4, 47, 59, 0, 37, 6}, {5, 54, 64, 0, 43, 6},
		}},
		{table(60, 2, 2, 2, 1, 1, 1, 0), 100, policy(impl.AssurePure, 60, 5, 10, 80), 5, 3, 0, []leaving{
			{2, 1, 2, 0, 0, 1}, {3, 6, 7, 2, 4, 1}, {4, 8, 8, 1, 6, 1},
		}},
		// The least and the greatest Sum.
		{x, 40, policy(impl.AssureLife, 60, 0, 1, 80), 4, 2, -4, []leaving{
			{2, 0, 0, 0, 0, 0}, {3, 0, 0, 0, 0, 0},
		}},
		{x, 40, policy(impl.AssureTerm, 60, 3, 1, 80), 3, 2, -4, []leaving{
			{2, 0, 0, 0, 0, 0},
		}},
		{x, 40, policy(impl.AssureEndowment, 60, 3, 1, 80), 3, 2, -4, []leaving{
			{2, 0, 0, 0, 0, 0},
		}},
		{x, 40, policy(impl.AssurePure, 60, 3, 1, 80), 3, 2, -4, []leaving{
			{2, 0, 0, 0, 0, 0},
		}},
		{x, 40, policy(impl.AssureLife, 60, 0, maxSum, 80), 4, 2, -24195473, []leaving{
			{2, 43256969, 45869350, 0, 34605575, 4806330}, {3, 58433278, 60770609, 0, 46746622, 6492587},
		}},
		{x, 40, policy(impl.AssureTerm, 60, 3, maxSum, 80), 3, 2, -27167313, []leaving{
			{2, 22552601, 46909410, 0, 18042080, 2505845},
		}},
		{x, 40, policy(impl.AssureEndowment, 60, 3, maxSum, 80), 3, 2, -22590032, []leaving{
			{2, 54441846, 56619519, 1, 43553476, 6049095},
		}},
		{x, 40, policy(impl.AssurePure, 60, 3, maxSum, 80), 3, 2, 4577280, []leaving{
			{2, 31889246, 66329631, 0, 25511396, 3543250},
		}},
		// Long lives, at the rates at the limits, with products that no int64 holds.
		{longTable, 0, policy(impl.AssureLife, 31, 0, maxSum, 80), 119, 2, -302615, []leaving{
			{2, 1512513, 1512513, 116, 1210010, 168058}, {3, 2268817, 2268817, 115, 1815053, 252091},
			{59, 44621802, 44621802, 59, 35697441, 4957978}, {117, 88487393, 88487393, 1, 70789914, 9831933},
			{118, 89243696, 89243696, 0, 71394956, 9915967},
		}},
		{longTable, 0, policy(impl.AssureEndowment, 31, 119, maxSum, 80), 119, 2, -302615, []leaving{
			{2, 1512513, 1512513, 116, 1210010, 168058}, {3, 2268817, 2268817, 115, 1815053, 252091},
			{59, 44621802, 44621802, 59, 35697441, 4957978}, {117, 88487393, 88487393, 1, 70789914, 9831933},
			{118, 89243696, 89243696, 0, 71394956, 9915967},
		}},
		{longTable, 0, policy(impl.AssureTerm, 31, 119, maxSum-1, 80), 119, 2, -302615, []leaving{
			{2, 1512513, 1512513, 116, 1210010, 168057}, {3, 2268816, 2268816, 115, 1815052, 252091},
			{59, 44621801, 44621801, 59, 35697440, 4957978}, {117, 88487392, 88487392, 1, 70789913, 9831933},
			{118, 89243695, 89243695, 0, 71394956, 9915967},
		}},
		{longTable, 0, policy(impl.AssurePure, 31, 118, maxSum, 80), 118, 2, -305126, []leaving{
			{2, 1525384, 1525384, 116, 1220307, 169488}, {3, 2288097, 2288097, 115, 1830477, 254233},
			{59, 44999980, 44999980, 59, 35999984, 4999998}, {116, 88474575, 88474575, 2, 70779660, 9830509},
			{117, 89237287, 89237287, 1, 71389829, 9915255},
		}},
		{longTable, 1, policy(impl.AssureEndowment, 31, 119, maxSum, 1000), 119, 2, -1738051, []leaving{
			{2, 1425777, 1602650, 116, 1140621, 158420}, {3, 2139776, 2402820, 115, 1711820, 237753},
			{59, 43284436, 45959619, 59, 34627548, 4809382}, {117, 88397258, 88574141, 1, 70717806, 9821918},
			{118, 89198228, 89287426, 0, 71358582, 9910915},
		}},
		{longTable, impl.MaxRate, policy(impl.AssureEndowment, 31, 108, maxSum, 80), 108, 2, 0, []leaving{
			{2, 0, 0, 106, 0, 0}, {54, 0, 0, 54, 0, 0}, {106, 0, 0, 2, 0, 0}, {107, 0, 0, 1, 0, 0},
		}},
		{longTable, impl.MaxRate, policy(impl.AssurePure, 31, 107, 1, 80), 107, 2, -4, []leaving{
			{2, 0, 0, 105, 0, 0}, {54, 0, 0, 53, 0, 0}, {105, 0, 0, 2, 0, 0}, {106, 0, 0, 1, 0, 0},
		}},
		{lateTable, impl.MaxRate, policy(impl.AssureEndowment, 100, 50, maxSum, 80), 50, 49, 74901153, []leaving{
			{2, 4349, 27485042, 47, 3479, 484}, {25, 933629, 89066123, 24, 746903, 103737},
			{48, 62496788, 89995647, 1, 49997430, 6944088}, {49, 74998124, 89998021, 0, 59998499, 8333125},
		}},
		{lateTable, 35, policy(impl.AssureLife, 100, 0, maxSum, 0), 50, 49, 50152427, []leaving{
			{2, 1398102, 7289129, 47, 1118481, 155345}, {25, 26759861, 63240110, 24, 21407888, 2973318},
			{48, 82710807, 88601884, 1, 66168645, 9190090}, {49, 86292720, 89312965, 0, 69034176, 9588081},
		}},
		{slowLives, 40, policy(impl.AssureLife, 0, 0, 10000, 80), 119, 2, -2224, []leaving{
			{2, 0, 0, 0, 0, 0}, {4, 0, 0, 114, 0, 0}, {60, 0, 0, 58, 0, 0}, {117, 6505, 7035, 1, 5204, 723},
			{118, 7728, 8037, 0, 6182, 859},
		}},
		{slowLives, impl.MaxRate, policy(impl.AssureEndowment, 0, 107, maxSum, 80), 107, 2, -38649602, []leaving{
			{2, 0, 0, 0, 0, 0}, {60, 0, 0, 47, 0, 0}, {105, 3159999, 9479997, 2, 2527999, 351111},
			{106, 28895999, 57791998, 1, 23116799, 3210667},
		}},
		{slowLives, 0, policy(impl.AssurePure, 0, 118, maxSum, 0), 118, 4, 6718750, []leaving{
			{2, 2109375, 6328125, 0, 1687500, 234375}, {4, 9843750, 9843750, 114, 7875000, 1093750},
			{60, 49218750, 49218750, 58, 39375000, 5468750}, {116, 88593750, 88593750, 2, 70875000, 9843750},
			{117, 89296875, 89296875, 1, 71437500, 9921875},
		}},
		{fallingTable(impl.MaxLives, 108, 1), 0, policy(impl.AssureEndowment, 30, 109, maxSum, 80), 109, 2, -333343, []leaving{
			{2, 1666659, 1666659, 105, 1333327, 185185}, {107, 89166666, 89166666, 0, 71333332, 9907408},
			{108, 89166666, 89166666, 0, 71333332, 9907408},
		}},
		{fallingTable(impl.MaxLives, 50, 1), impl.MaxRate, policy(impl.AssurePure, 30, 107, maxSum, 80), 107, 106, 44999787, []leaving{
			{2, 0, 0, 47, 0, 0}, {49, 0, 0, 0, 0, 0}, {50, 814, 89444762, 57, 651, 91}, {51, 978, 89554482, 56, 782, 109},
			{106, 44999999, 89999998, 1, 35999999, 5000000},
		}},
		{fallingTable(impl.MaxLives, 50, 1), 0, policy(impl.AssurePure, 30, 109, maxSum, 80), 109, 2, 0, []leaving{
			{2, 0, 0, 47, 0, 0}, {49, 0, 0, 0, 0, 0}, {50, 0, 0, 58, 0, 0}, {51, 0, 0, 57, 0, 0}, {107, 0, 0, 1, 0, 0},
			{108, 0, 0, 0, 0, 0},
		}},
		{fallingTable(impl.MaxLives, 1, 1), impl.MaxRate, policy(impl.AssureTerm, 30, 107, maxSum, 80), 107, 2, -179998922, []leaving{
			{2, 0, 0, 105, 0, 0}, {60, 0, 0, 47, 0, 0}, {106, 0, 0, 1, 0, 0},
		}},
		{table(60, impl.MaxLives, impl.MaxLives, impl.MaxLives, 1, 0), 0, policy(impl.AssureLife, 60, 0, maxSum-1, 0), 4, 2, -6666665, []leaving{
			{2, 59999979, 59999979, 0, 47999983, 6666665}, {3, 60000009, 60000009, 0, 48000007, 6666668},
		}},
		{table(60, impl.MaxLives, 1, 1, 0), impl.MaxRate, policy(impl.AssureEndowment, 60, 3, maxSum-1, 0), 3, 2, -166666223, []leaving{
			{2, 137, 164, 0, 109, 16},
		}},
		{table(60, impl.MaxLives, impl.MaxLives, impl.MaxLives, impl.MaxLives, 1, 0), impl.MaxRate, policy(impl.AssurePure, 60, 5, maxSum, 0), 5, 2, 0, []leaving{
			{2, 0, 0, 1, 0, 0}, {3, 0, 0, 0, 0, 0}, {4, 0, 0, 0, 0, 0},
		}},
	} {
		b := basis(c.x, c.rate)
		checkBest(t, b, c.p, c.best, c.difference, impl.ErrNone)
		for _, want := range c.years {
			checkLeaving(t, b, c.p, want)
		}
		checkNoLeaving(t, b, c.p, -1, impl.ErrRange)
		checkNoLeaving(t, b, c.p, 0, impl.ErrNotFound)
		checkNoLeaving(t, b, c.p, impl.SurrenderYears-1, impl.ErrNotFound)
		checkNoLeaving(t, b, c.p, c.duration, impl.ErrRange)
	}
}

// leaving returns what is told about leaving in the year k, in which D is not 0.
func (h byHand) leaving(k int64) leaving {
	kept := h.year(k).kept
	want := leaving{k: k, value: kept * 9 / 10}
	want.loan, want.loss = want.value*8/10, kept-want.value
	sum, _, d := h.at(k)
	// The value is compared in parts of D.
	parts := new(big.Int).Mul(big.NewInt(want.value), d)
	if sum.Sign() > 0 {
		want.paidUp = min(h.p.Sum, new(big.Int).Div(parts, sum).Int64())
	}
	deaths := int64(0)
	for left := range h.duration - k {
		deaths += h.columns[h.p.Age+k+left-h.b.Table.First].C
		if product(h.p.Sum, deaths).Cmp(parts) <= 0 {
			want.years = left + 1
		}
	}
	return want
}

// checkLeavings compares all that is told about leaving with what is found by hand, for some years that may be none of the
// policy's own, and returns whether there is no best year as one has no D.
func (h byHand) checkLeavings(t *testing.T, years ...int64) bool {
	t.Helper()
	for _, k := range years {
		switch {
		case k < 0 || k >= h.duration:
			checkNoLeaving(t, h.b, h.p, k, impl.ErrRange)
		case !h.hasD(k):
			checkNoLeaving(t, h.b, h.p, k, impl.ErrState)
		case k < impl.SurrenderYears:
			checkNoLeaving(t, h.b, h.p, k, impl.ErrNotFound)
		default:
			checkLeaving(t, h.b, h.p, h.leaving(k))
		}
	}
	if h.duration <= impl.SurrenderYears {
		checkBest(t, h.b, h.p, 0, 0, impl.ErrNotFound)
		return false
	}
	office := h.premium + (h.premium*h.p.Load+maxLoad-1)/maxLoad
	best, greatest := int64(0), int64(0)
	// From the last year to the first one that counts, so that the least of several comes last.
	for k := h.duration - 1; k >= impl.SurrenderYears; k-- {
		if !h.hasD(k) {
			checkBest(t, h.b, h.p, 0, 0, impl.ErrState)
			return true
		}
		if difference := h.leaving(k).value - k*office; best == 0 || difference >= greatest {
			best, greatest = k, difference
		}
	}
	checkBest(t, h.b, h.p, best, greatest, impl.ErrNone)
	return false
}

func TestLeavingByHand(t *testing.T) {
	random := rand.New(rand.NewSource(121))
	valid, none := 0, 0
	for _, x := range append(sampleTables(), longTable, lateTable) {
		for _, rate := range []int64{0, 40, 1 + random.Int63n(impl.MaxRate), impl.MaxRate} {
			b, columns := basis(x, rate), columnsByHand(x, discountsByHand(rate))
			for _, age := range someAges(x) {
				for _, k := range kinds {
					for _, years := range yearsOfPolicy(x, age) {
						p := policy(k.kind, age, years, 1+random.Int63n(maxSum), random.Int63n(maxLoad+1))
						p.Sum = []int64{1, 1 + random.Int63n(1000), p.Sum, maxSum}[random.Intn(4)]
						if !isValidByHand(x, p, columns) {
							continue
						}
						h := policyByHand(b, p, columns)
						if h.checkLeavings(t, -1, 0, 1, 2, 3, random.Int63n(h.duration), h.duration-2, h.duration-1, h.duration) {
							none++
						}
						valid++
					}
				}
			}
		}
	}
	if valid < 1000 || none < 5 {
		t.Errorf("%d policies that are valid, and %d with a year without D, were tried", valid, none)
	}
}

// sorts counts what was tried, by its sort.
type sorts map[string]int

// count counts a case if it is of a sort.
func (s sorts) count(name string, is bool) {
	if is {
		s[name]++
	}
}

// checkAll checks that a case of each sort was tried.
func (s sorts) checkAll(t *testing.T, names ...string) {
	t.Helper()
	for _, name := range names {
		if s[name] == 0 {
			t.Errorf("none of the sort %q among those that were tried: %v", name, s)
		}
	}
}

// someYears are years of a policy that has a duration: the first ones that count for leaving, the last ones, and some
// between them.
func someYears(random *rand.Rand, duration int64) []int64 {
	years := []int64{}
	for k := int64(impl.SurrenderYears); k < duration; k++ {
		if k < 5 || k >= duration-3 || random.Int63n(duration) < 4 {
			years = append(years, k)
		}
	}
	return years
}

// leavingsByChance calls try for policies of all kinds that are made by chance and last longer than SurrenderYears, with the
// numbers of ReserveList and some of the years that count. Small sums are as frequent as great ones.
func leavingsByChance(seed int64, try func(b impl.Basis, p impl.Policy, list, years []int64)) {
	byChance(seed, maxSum, func(random *rand.Rand, x impl.LifeTable, rate, age, amount int64) {
		b := basis(x, rate)
		for _, kind := range kinds {
			for _, years := range yearsOfKind(kind.kind, x, age) {
				sum := []int64{1 + amount%20, 1 + amount%1000, amount, maxSum}[random.Intn(4)]
				p := policy(kind.kind, age, years, sum, []int64{0, 80, random.Int63n(maxLoad + 1)}[random.Intn(3)])
				if list, code := impl.ReserveList(b, p); code == impl.ErrNone && len(list) > impl.SurrenderYears {
					try(b, p, list, someYears(random, int64(len(list))))
				}
			}
		}
	})
}

// TestPaidUpSumsArePaidFor checks promise 12: a paid-up sum is paid for by the surrender value, one cent more is not. It is
// always less than the Sum, as a premium of a cent or more is still to come in where anything is still to be paid out.
func TestPaidUpSumsArePaidFor(t *testing.T) {
	found := sorts{}
	leavingsByChance(122, func(b impl.Basis, p impl.Policy, _, some []int64) {
		for _, k := range some {
			value, _ := impl.SurrenderValue(b, p, k)
			sum, code := impl.PaidUpSum(b, p, k)
			if sum < 0 || sum >= p.Sum || code != impl.ErrNone {
				t.Errorf("PaidUpSum(%v, %v, %d) = %d, %d", b, p, k, sum, code)
			}
			rest := max(p.Years-k, 0)
			above, below, _ := impl.AssuranceNumber(b.Table, b.Rate, p.Kind, p.Age+k, rest)
			if above == 0 {
				if sum != 0 || value != 0 {
					t.Errorf("PaidUpSum(%v, %v, %d) = %d for %d; nothing is still to be paid out", b, p, k, sum, value)
				}
				found["nothing to pay"]++
				continue
			}
			even := product(value, below).Cmp(product(sum, above)) == 0
			found.count("nothing", sum == 0)
			found.count("even", sum > 0 && even)
			found.count("more than the value", sum > value)
			found.count("as much as the value", sum > 0 && sum == value)
			if sum > 0 {
				if price, code := impl.AssurancePrice(b.Table, b.Rate, p.Kind, p.Age+k, rest, sum); price > value || code != impl.ErrNone {
					t.Errorf("PaidUpSum(%v, %v, %d) = %d, which costs %d, %d; the value is %d", b, p, k, sum, price, code, value)
				}
			}
			if price, code := impl.AssurancePrice(b.Table, b.Rate, p.Kind, p.Age+k, rest, sum+1); price <= value || code != impl.ErrNone {
				t.Errorf("PaidUpSum(%v, %v, %d) = %d, but one cent more costs %d, %d; the value is %d", b, p, k, sum, price, code, value)
			}
		}
	})
	found.checkAll(t, "nothing to pay", "nothing", "even", "more than the value", "as much as the value")
}

// TestSurrenderValuesWithinReserves compares with the numbers of ReserveList: a surrender value is never more.
func TestSurrenderValuesWithinReserves(t *testing.T) {
	found := sorts{}
	leavingsByChance(123, func(b impl.Basis, p impl.Policy, list, some []int64) {
		for _, k := range some {
			kept := list[k]
			value, code := impl.SurrenderValue(b, p, k)
			if want, _ := impl.PerMille(kept, impl.SurrenderShare); value != want || value > kept || code != impl.ErrNone {
				t.Errorf("SurrenderValue(%v, %v, %d) = %d, %d; the reserve is %d", b, p, k, value, code, kept)
			}
			loan, code := impl.LoanLimit(b, p, k)
			if want, _ := impl.PerMille(value, impl.LoanShare); loan != want || loan > value || code != impl.ErrNone {
				t.Errorf("LoanLimit(%v, %v, %d) = %d, %d; the value is %d", b, p, k, loan, code, value)
			}
			if loss, code := impl.LeavingLoss(b, p, k); loss != kept-value || code != impl.ErrNone {
				t.Errorf("LeavingLoss(%v, %v, %d) = %d, %d; the reserve is %d, the value %d", b, p, k, loss, code, kept, value)
			}
			found.count("no reserve", kept == 0)
			found.count("a reserve without value", kept > 0 && value == 0)
			found.count("an even value", value > 0 && 10*value == 9*kept)
			found.count("a value rounded down", value > 0 && 10*value < 9*kept)
			found.count("a value without loan", value > 0 && loan == 0)
			found.count("an even loan", loan > 0 && 10*loan == 8*value)
			found.count("a loan rounded down", loan > 0 && 10*loan < 8*value)
		}
	})
	found.checkAll(t, "no reserve", "a reserve without value", "an even value", "a value rounded down", "a value without loan", "an even loan", "a loan rounded down")
}

// TestKeptYearsArePaidFor compares with the prices of AssureTerm: that for the kept years is paid for by the surrender value,
// and that for more years is not.
func TestKeptYearsArePaidFor(t *testing.T) {
	found := sorts{}
	leavingsByChance(124, func(b impl.Basis, p impl.Policy, list, some []int64) {
		for _, k := range some {
			value, _ := impl.SurrenderValue(b, p, k)
			years, code := impl.KeptYears(b, p, k)
			left := int64(len(list)) - k
			if years < 0 || years > left || code != impl.ErrNone {
				t.Errorf("KeptYears(%v, %v, %d) = %d, %d of %d", b, p, k, years, code, left)
				continue
			}
			if years > 0 {
				price, code := impl.AssurancePrice(b.Table, b.Rate, impl.AssureTerm, p.Age+k, years, p.Sum)
				if price > value || code != impl.ErrNone {
					t.Errorf("KeptYears(%v, %v, %d) = %d, which cost %d, %d; the value is %d", b, p, k, years, price, code, value)
				}
				found.count("just paid for", price == value && value > 0)
			}
			// More years never cost less.
			for n := years + 1; n <= min(years+2, left); n++ {
				price, code := impl.AssurancePrice(b.Table, b.Rate, impl.AssureTerm, p.Age+k, n, p.Sum)
				if price <= value || code != impl.ErrNone {
					t.Errorf("KeptYears(%v, %v, %d) = %d, but %d cost %d, %d; the value is %d", b, p, k, years, n, price, code, value)
				}
				found.count("a cent is lacking", n == years+1 && price == value+1)
			}
			found.count("none", years == 0)
			found.count("all, of one", years == left && left == 1)
			found.count("all, of several", years == left && left > 1)
			found.count("some", years > 0 && years < left)
			found.count("years that cost nothing", years > 0 && value == 0)
		}
	})
	found.checkAll(t, "just paid for", "a cent is lacking", "none", "all, of one", "all, of several", "some", "years that cost nothing")
}

// TestBestLeavingByTheValues compares with the surrender values of all years and the office premium.
func TestBestLeavingByTheValues(t *testing.T) {
	found := sorts{}
	leavingsByChance(125, func(b impl.Basis, p impl.Policy, list, _ []int64) {
		office, _ := impl.OfficePremium(b, p)
		differences := []int64{}
		for k := int64(impl.SurrenderYears); k < int64(len(list)); k++ {
			value, _ := impl.SurrenderValue(b, p, k)
			differences = append(differences, value-k*office)
		}
		greatest := slices.Max(differences)
		at := slices.Index(differences, greatest)
		checkBest(t, b, p, int64(at)+impl.SurrenderYears, greatest, impl.ErrNone)
		alone := slices.Index(differences[at+1:], greatest) < 0
		place := "between"
		if at == len(differences)-1 {
			place = "at the end"
		} else if at == 0 {
			place = "at the beginning"
		}
		sign := []string{"negative", "0", "positive"}[1+big.NewInt(greatest).Sign()]
		found.count(place+", "+sign, alone && len(differences) > 1)
		found.count("one of several, "+sign, !alone)
		found.count("the only one, "+sign, len(differences) == 1)
	})
	for _, sign := range []string{"negative", "0", "positive"} {
		for _, place := range []string{"at the beginning", "between", "at the end", "one of several", "the only one"} {
			found.checkAll(t, place+", "+sign)
		}
	}
}

// TestLeavingWithoutD has policies for life at the rate at which the discounts come to 0 before the lives do: the age 138 is
// the last one with D.
func TestLeavingWithoutD(t *testing.T) {
	discounts := discountsByHand(impl.MaxRate)
	for _, c := range []struct {
		name    string
		x       impl.LifeTable
		without int64
	}{
		{"all D are there", level(31, impl.MaxLives, 109), 0},
		{"one year has none", level(31, impl.MaxLives, 110), 1},
		{"two years have none", level(31, impl.MaxLives, 111), 2},
		{"many years have none", longTable, 11},
	} {
		t.Run(c.name, func(t *testing.T) {
			b, columns := basis(c.x, impl.MaxRate), columnsByHand(c.x, discounts)
			for age := int64(31); age <= 138; age++ {
				p, last := policy(impl.AssureLife, age, 0, 10000, 80), 138-age
				duration := last + 1 + c.without
				policyByHand(b, p, columns).checkLeavings(t, 0, 1, 2, last-1, last, last+1, last+2, duration-1, duration)
				// All that is lacking is said here once more, without any reckoning.
				checkNoLeaving(t, b, p, 0, impl.ErrNotFound)
				for k := last + 1; k < duration; k++ {
					checkNoLeaving(t, b, p, k, impl.ErrState)
				}
				if n, code := impl.SurrenderValue(b, p, last); last >= impl.SurrenderYears && (n != 0 || code != impl.ErrNone) {
					t.Errorf("SurrenderValue(%d, %d) = %d, %d", age, last, n, code)
				}
				checkNoLeaving(t, b, p, -1, impl.ErrRange)
				checkNoLeaving(t, b, p, duration, impl.ErrRange)
				_, _, code := impl.BestLeaving(b, p)
				want := int64(impl.ErrNone)
				if duration <= impl.SurrenderYears {
					want = impl.ErrNotFound
				} else if c.without > 0 {
					want = impl.ErrState
				}
				if code != want {
					t.Errorf("BestLeaving(%d): code %d; want %d", age, code, want)
				}
				p.Load = maxLoad + 1
				checkNoLeaving(t, b, p, 0, impl.ErrInvalid)
				checkNoLeaving(t, b, p, last+1, impl.ErrInvalid)
				checkBest(t, b, p, 0, 0, impl.ErrInvalid)
			}
		})
	}
}

// TestShortPolicies has policies with one year to four, of which those with more than SurrenderYears have a best year.
func TestShortPolicies(t *testing.T) {
	for _, x := range append(sampleTables(), longTable, lateTable) {
		for _, rate := range []int64{0, 40, impl.MaxRate} {
			b, columns := basis(x, rate), columnsByHand(x, discountsByHand(rate))
			for _, kind := range kinds {
				for duration := int64(1); duration <= 4; duration++ {
					p := policy(kind.kind, x.First, duration, 10000, 80)
					if kind.kind == impl.AssureLife {
						p.Age, p.Years = endOf(x)-duration, 0
					}
					if !isValidByHand(x, p, columns) {
						continue
					}
					h := policyByHand(b, p, columns)
					h.checkLeavings(t, -1, 0, 1, 2, 3, 4, 5)
					if duration <= impl.SurrenderYears {
						checkBest(t, b, p, 0, 0, impl.ErrNotFound)
						checkNoLeaving(t, b, p, impl.SurrenderYears, impl.ErrRange)
					} else if k, _, code := impl.BestLeaving(b, p); code == impl.ErrNotFound || duration == 3 && k != 2 && code == impl.ErrNone {
						t.Errorf("BestLeaving(%v, %v) = %d, code %d", b, p, k, code)
					}
				}
			}
		}
	}
}

// TestYearsOfNoLeaving has years at their limits, and beyond.
func TestYearsOfNoLeaving(t *testing.T) {
	for _, x := range append(sampleTables(), longTable, lateTable) {
		for _, rate := range []int64{0, impl.MaxRate} {
			b := basis(x, rate)
			for _, age := range []int64{x.First, endOf(x) - 1} {
				for _, kind := range kinds {
					for _, years := range yearsOfKind(kind.kind, x, age) {
						p := policy(kind.kind, age, years, 10000, 80)
						duration, code := impl.DurationOf(b, p)
						if code != impl.ErrNone {
							checkNoLeaving(t, b, p, impl.SurrenderYears, impl.ErrInvalid)
							checkBest(t, b, p, 0, 0, impl.ErrInvalid)
							continue
						}
						for _, k := range append(noYears, duration, duration+1) {
							checkNoLeaving(t, b, p, k, impl.ErrRange)
						}
						checkNoLeaving(t, b, p, 0, impl.ErrNotFound)
						if _, code := impl.SurrenderValue(b, p, duration-1); code == impl.ErrRange {
							t.Errorf("SurrenderValue(%v, %v, %d): code %d", b, p, duration-1, code)
						}
					}
				}
			}
		}
	}
}

// checkNobodyLeaves checks that a policy is not valid, whatever the year is.
func checkNobodyLeaves(t *testing.T, b impl.Basis, p impl.Policy) {
	t.Helper()
	checkBest(t, b, p, 0, 0, impl.ErrInvalid)
	for _, k := range []int64{0, 1, 2, 3, -1, impl.MaxYears, math.MinInt64, math.MaxInt64} {
		checkNoLeaving(t, b, p, k, impl.ErrInvalid)
	}
}

// TestLeavingOfNoPolicies has policies with one wrong number, or two.
func TestLeavingOfNoPolicies(t *testing.T) {
	for _, x := range append(sampleTables(), longTable, lateTable) {
		for _, kind := range kinds {
			// With as many years as there are lives, but no more than three.
			p := policy(kind.kind, x.First, min(kind.kind, 1)*min(3, endOf(x)-x.First), 10000, 80)
			for _, rate := range noRates {
				checkNobodyLeaves(t, basis(x, rate), p)
			}
			for _, rate := range []int64{0, 40, impl.MaxRate} {
				b := basis(x, rate)
				policyByHand(b, p, columnsByHand(x, discountsByHand(rate))).checkLeavings(t, 0, 1, 2, 3)
				for _, wrong := range wrongPolicies(x, p) {
					checkNobodyLeaves(t, b, wrong)
				}
			}
		}
	}
}

// TestLeavingOfNoBasis has life tables that are none, also besides other numbers that are wrong.
func TestLeavingOfNoBasis(t *testing.T) {
	for name, x := range noTables() {
		t.Run(name, func(t *testing.T) {
			for _, rate := range []int64{0, 40, impl.MaxRate, -1, impl.MaxRate + 1} {
				for _, age := range append(wrongAges(x), x.First, 60, 61, 100, 150) {
					for kind := int64(-1); kind <= 4; kind++ {
						for _, years := range []int64{0, 1, 3, impl.MaxYears, -1, math.MaxInt64} {
							checkNobodyLeaves(t, basis(x, rate), policy(kind, age, years, 10000, 80))
							checkNobodyLeaves(t, basis(x, rate), policy(kind, age, years, 0, maxLoad+1))
						}
					}
				}
			}
		})
	}
}

// TestTablesOfLeaversStay has numbers before and behind the lives of a table.
func TestTablesOfLeaversStay(t *testing.T) {
	back := []int64{700, 100, 90, 72, 36, 0, 33, 22, 11}
	b := basis(impl.LifeTable{First: 60, Lives: back[1:6]}, 40)
	for _, kind := range kinds {
		p := policy(kind.kind, 60, min(kind.kind, 1)*3, 10000, 80)
		policyByHand(b, p, columnsByHand(b.Table, discountsByHand(b.Rate))).checkLeavings(t, 0, 1, 2, 3)
	}
	if !slices.Equal(back, []int64{700, 100, 90, 72, 36, 0, 33, 22, 11}) {
		t.Errorf("an argument is changed: %v", back)
	}
}

func TestLeavingKeepsNothing(t *testing.T) {
	checkKeepsNothing(t, func(x impl.LifeTable, rate int64) string {
		b, told := basis(x, rate), []any{}
		for _, kind := range kinds {
			// The same policies for all bases, of which each is valid for some.
			for _, age := range []int64{0, 60} {
				p := policy(kind.kind, age, min(kind.kind, 1)*3, 10000, 80)
				for _, l := range leavings {
					n, code := l.ask(b, p, impl.SurrenderYears)
					told = append(told, n, code)
				}
				k, n, code := impl.BestLeaving(b, p)
				told = append(told, k, n, code)
			}
		}
		return fmt.Sprint(told)
	})
}
