package tests

import (
	"fmt"
	"math"
	"math/big"
	"math/rand"
	"slices"
	"testing"

	"loop.example/g01025/impl"
)

// sides are the functions of chapter 11 that tell a number of cents and the remainder of the division by D.
var sides = []struct {
	name string
	side func(b impl.Basis, p impl.Policy, k int64) (int64, int64, int64)
}{
	{"ForwardReserve", impl.ForwardReserve},
	{"BackwardReserve", impl.BackwardReserve},
	{"GainAt", impl.GainAt},
}

// reserve is what chapter 11 tells about the year k of a policy: the forward reserve, the backward reserve and the gain, each
// with its remainder, D, the number of ReserveList, and the risk.
type reserve struct{ k, forward, forwardRest, backward, backwardRest, gain, gainRest, d, kept, risk int64 }

// checkSides compares what is told about one year of a policy, but for the risk.
func checkSides(t *testing.T, b impl.Basis, p impl.Policy, want reserve) {
	t.Helper()
	parts := [][2]int64{{want.forward, want.forwardRest}, {want.backward, want.backwardRest}, {want.gain, want.gainRest}}
	for i, s := range sides {
		if q, r, code := s.side(b, p, want.k); q != parts[i][0] || r != parts[i][1] || code != impl.ErrNone {
			t.Errorf("%s(%v, %v, %d) = %d, %d, %d; want %d", s.name, b, p, want.k, q, r, code, parts[i])
		}
	}
	if n, code := impl.DenominatorAt(b, p, want.k); n != want.d || code != impl.ErrNone {
		t.Errorf("DenominatorAt(%v, %v, %d) = %d, %d; want %d", b, p, want.k, n, code, want.d)
	}
}

// checkRisk compares a risk; beside an error it has to be 0.
func checkRisk(t *testing.T, b impl.Basis, p impl.Policy, k, want, wantCode int64) {
	t.Helper()
	if n, code := impl.RiskAt(b, p, k); n != want || code != wantCode {
		t.Errorf("RiskAt(%v, %v, %d) = %d, %d; want %d, %d", b, p, k, n, code, want, wantCode)
	}
}

// checkYear compares all that is told about one year of a policy.
func checkYear(t *testing.T, b impl.Basis, p impl.Policy, want reserve) {
	t.Helper()
	checkSides(t, b, p, want)
	checkRisk(t, b, p, want.k, want.risk, impl.ErrNone)
}

// TestReserveExamples has numbers that a program in another language has reckoned: all years of a policy, or some of them.
func TestReserveExamples(t *testing.T) {
	x := table(60, 100, 90, 72, 36, 0)
	for _, c := range []struct {
		x                      impl.LifeTable
		rate                   int64
		p                      impl.Policy
		duration, greatest, at int64
		years                  []reserve
	}{
		// Each kind, for as many years as there are lives, and for fewer.
		{x, 40, policy(impl.AssureLife, 60, 0, 10000, 100), 4, 6493, 3, []reserve{
			{0, -1, 42451556462, 0, 0, 0, 57548443538, 100000000000, 0, 7502},
			{1, 2497, 2067115932, 2497, 59615559470, 0, 57548443538, 86538461490, 2498, 5193},
			{2, 4806, 2067378948, 4806, 59615822486, 0, 57548443538, 66568047264, 4807, 3507},
			{3, 6492, 12309028020, 6494, 5849733854, 1, 25544574686, 32003868852, 6493, 10000},
		}},
		{x, 40, policy(impl.AssureTerm, 60, 4, 10000, 100), 4, 6493, 3, []reserve{
			{0, -1, 42451556462, 0, 0, 0, 57548443538, 100000000000, 0, 7502},
			{1, 2497, 2067115932, 2497, 59615559470, 0, 57548443538, 86538461490, 2498, 5193},
			{2, 4806, 2067378948, 4806, 59615822486, 0, 57548443538, 66568047264, 4807, 3507},
			{3, 6492, 12309028020, 6494, 5849733854, 1, 25544574686, 32003868852, 6493, 10000},
		}},
		{x, 40, policy(impl.AssureTerm, 60, 2, 10000, 0), 2, 516, 1, []reserve{
			{0, -1, 27810482080, 0, 0, 0, 72189517920, 100000000000, 0, 9484},
			{1, 515, 6656714730, 515, 78846232650, 0, 72189517920, 86538461490, 516, 10000},
		}},
		{x, 40, policy(impl.AssureEndowment, 60, 4, 10000, 100), 4, 6493, 3, []reserve{
			{0, -1, 42451556462, 0, 0, 0, 57548443538, 100000000000, 0, 7502},
			{1, 2497, 2067115932, 2497, 59615559470, 0, 57548443538, 86538461490, 2498, 5193},
			{2, 4806, 2067378948, 4806, 59615822486, 0, 57548443538, 66568047264, 4807, 3507},
			{3, 6492, 12309028020, 6494, 5849733854, 1, 25544574686, 32003868852, 6493, 0},
		}},
		{x, 40, policy(impl.AssureEndowment, 60, 3, 10000, 80), 3, 6049, 2, []reserve{
			{0, -2, 20424574482, 0, 0, 1, 79575425518, 100000000000, 0, 6991},
			{1, 3008, 58886312562, 3010, 65384815100, 2, 6498502538, 86538461490, 3009, 3951},
			{2, 6048, 25602596640, 6051, 5473880366, 2, 46439330990, 66568047264, 6049, 0},
		}},
		{x, 40, policy(impl.AssurePure, 60, 4, 10000, 100), 4, 0, 0, []reserve{
			{0, 0, 0, 0, 0, 0, 0, 100000000000, 0, 0},
			{1, 0, 0, 0, 0, 0, 0, 86538461490, 0, 0},
			{2, 0, 0, 0, 0, 0, 0, 66568047264, 0, 0},
			{3, 0, 0, 0, 0, 0, 0, 32003868852, 0, 0},
		}},
		{x, 40, policy(impl.AssurePure, 60, 3, 10000, 80), 3, 3543, 2, []reserve{
			{0, -2, 58954946190, 0, 0, 1, 41045053810, 100000000000, 0, -1461},
			{1, 1460, 12801170790, 1461, 67307763110, 1, 54506592320, 86538461490, 1461, -3543},
			{2, 3542, 46085321952, 3544, 53994281234, 2, 7908959282, 66568047264, 3543, 0},
		}},
		{x, 40, policy(impl.AssureLife, 61, 0, 10000, 1000), 3, 5325, 2, []reserve{
			{0, -2, 52761335634, 0, 0, 1, 33777125856, 86538461490, 0, 6923},
			{1, 3076, 32791122180, 3078, 19970614998, 1, 53747540082, 66568047264, 3077, 4675},
			{2, 5324, 12309028020, 5328, 4609139958, 3, 24303980790, 32003868852, 5325, 10000},
		}},
		{x, 40, policy(impl.AssureEndowment, 61, 2, 10000, 80), 2, 4348, 1, []reserve{
			{0, -1, 18945545418, 0, 0, 0, 67592916072, 86538461490, 0, 5652},
			{1, 4347, 25602596640, 4348, 26627465448, 1, 1024868808, 66568047264, 4348, 0},
		}},
		{table(60, 100, 90, 0), 40, policy(impl.AssureLife, 60, 0, 10000, 0), 2, 4639, 1, []reserve{
			{0, -2, 52514064270, 0, 0, 1, 47485935730, 100000000000, 0, 5361},
			{1, 4638, 33283573650, 4640, 7692586400, 1, 60947474240, 86538461490, 4639, 10000},
		}},
		// One year, at the first age and at the last one with lives.
		{x, 40, policy(impl.AssureTerm, 60, 1, 10000, 80), 1, 0, 0, []reserve{
			{0, -1, 53846100000, 0, 0, 0, 46153900000, 100000000000, 0, 10000},
		}},
		{x, 40, policy(impl.AssureEndowment, 60, 1, 10000, 80), 1, 0, 0, []reserve{
			{0, -1, 38461000000, 0, 0, 0, 61539000000, 100000000000, 0, 0},
		}},
		{x, 40, policy(impl.AssurePure, 60, 1, 10000, 80), 1, 0, 0, []reserve{
			{0, -1, 84614900000, 0, 0, 0, 15385100000, 100000000000, 0, 0},
		}},
		{x, 40, policy(impl.AssureLife, 63, 0, 10000, 80), 1, 0, 0, []reserve{
			{0, -1, 12309028020, 0, 0, 0, 19694840832, 32003868852, 0, 10000},
		}},
		{x, 40, policy(impl.AssureTerm, 63, 1, 10000, 80), 1, 0, 0, []reserve{
			{0, -1, 12309028020, 0, 0, 0, 19694840832, 32003868852, 0, 10000},
		}},
		{x, 40, policy(impl.AssureEndowment, 63, 1, 10000, 80), 1, 0, 0, []reserve{
			{0, -1, 12309028020, 0, 0, 0, 19694840832, 32003868852, 0, 0},
		}},
		{x, 40, policy(impl.AssurePure, 63, 1, 10000, 80), 1, 0, 0, []reserve{
			{0, 0, 0, 0, 0, 0, 0, 32003868852, 0, 0},
		}},
		{table(0, 1, 0), impl.MaxRate, policy(impl.AssureEndowment, 0, 1, maxSum, 80), 1, 0, 0, []reserve{
			{0, -1, 300000000, 0, 0, 0, 700000000, 1000000000, 0, 0},
		}},
		// The least and the greatest Sum.
		{x, 40, policy(impl.AssureLife, 60, 0, 1, 80), 4, 0, 0, []reserve{
			{0, -2, 3923838476, 0, 0, 1, 96076161524, 100000000000, 0, 1},
			{1, -2, 67385376846, 1, 3846153900, 2, 22999238544, 86538461490, 0, 1},
			{2, -1, 30772950804, 2, 27144970536, 2, 62940066996, 66568047264, 0, 1},
			{3, -1, 30772950804, 6, 2822030364, 6, 4052948412, 32003868852, 0, 1},
		}},
		{x, 40, policy(impl.AssureTerm, 60, 3, 1, 80), 3, 0, 0, []reserve{
			{0, -2, 5154756524, 0, 0, 1, 94845243476, 100000000000, 0, 1},
			{1, -2, 68616294894, 1, 3846153900, 2, 21768320496, 86538461490, 0, 1},
			{2, -1, 32003868852, 2, 27144970536, 2, 61709148948, 66568047264, 0, 1},
		}},
		{x, 40, policy(impl.AssureEndowment, 60, 3, 1, 80), 3, 0, 0, []reserve{
			{0, -2, 37158625376, 0, 0, 1, 62841374624, 100000000000, 0, 1},
			{1, -1, 14081702256, 1, 3846153900, 1, 76302913134, 86538461490, 0, 1},
			{2, -1, 64007737704, 2, 27144970536, 2, 29705280096, 66568047264, 0, 0},
		}},
		{x, 40, policy(impl.AssurePure, 60, 3, 1, 80), 3, 0, 0, []reserve{
			{0, -3, 78897360098, 0, 0, 2, 21102639902, 100000000000, 0, 0},
			{1, -2, 51974283078, 1, 13461538510, 2, 48025716922, 86538461490, 0, 0},
			{2, -1, 32003868852, 2, 53402366962, 3, 21398498110, 66568047264, 0, 0},
		}},
		{x, 40, policy(impl.AssureLife, 60, 0, maxSum, 80), 4, 64925865, 3, []reserve{
			{0, -2, 68306628908, 0, 0, 1, 31693371092, 100000000000, 0, 75025444},
			{1, 24974555, 41209241958, 24974556, 86364151560, 1, 45154909602, 86538461490, 24974556, 51936701},
			{2, 48063298, 50496325416, 48063300, 49053601980, 1, 65125323828, 66568047264, 48063299, 35074135},
			{3, 64925864, 3400595208, 64925868, 7078490892, 4, 3677895684, 32003868852, 64925865, 100000000},
		}},
		{x, 40, policy(impl.AssureTerm, 60, 3, maxSum, 80), 3, 25058446, 2, []reserve{
			{0, -1, 24389243588, 0, 0, 0, 75610756412, 100000000000, 0, 84511981},
			{1, 15488018, 14139816768, 15488019, 3212111690, 0, 75610756412, 86538461490, 15488019, 74941554},
			{2, 25058445, 2628311328, 25058446, 11671020476, 1, 9042709148, 66568047264, 25058446, 100000000},
		}},
		{x, 40, policy(impl.AssureEndowment, 60, 3, maxSum, 80), 3, 60490941, 2, []reserve{
			{0, -3, 83317920876, 0, 0, 2, 16682079124, 100000000000, 0, 69900644},
			{1, 30099355, 48776581926, 30099358, 5843276580, 2, 43605156144, 86538461490, 30099356, 39509059},
			{2, 60490940, 5256622656, 60490943, 22234559988, 3, 16977937332, 66568047264, 60490941, 0},
		}},
		{x, 40, policy(impl.AssurePure, 60, 3, maxSum, 80), 3, 35432496, 2, []reserve{
			{0, -2, 58928677288, 0, 0, 1, 41071322712, 100000000000, 0, -14611338},
			{1, 14611337, 34636765158, 14611339, 2631164890, 1, 54532861222, 86538461490, 14611338, -35432496},
			{2, 35432495, 2628311328, 35432497, 10563539512, 2, 7935228184, 66568047264, 35432496, 0},
		}},
		// Reserves that come out even: negative ones, 0, and positive ones; and premiums that gain nothing.
		{table(60, 10, 4, 2, 2, 2, 1, 0), impl.MaxRate, policy(impl.AssureTerm, 60, 3, 10000, 0), 3, 0, 0, []reserve{
			{0, -1, 4444425200, 0, 0, 0, 5555574800, 10000000000, 0, 10000},
			{1, -1982, 1111109224, -1980, 17360, 1, 2222241468, 3333333332, 0, 10000},
			{2, -4340, 0, -4336, 19248, 4, 19248, 1388888888, 0, 10000},
		}},
		{table(60, 10, 8, 7, 6, 1, 0), 0, policy(impl.AssureTerm, 60, 5, 2, 0), 5, 1, 3, []reserve{
			{0, -2, 8000000000, 0, 0, 1, 2000000000, 10000000000, 0, 2},
			{1, -1, 2000000000, 0, 6000000000, 1, 4000000000, 8000000000, 0, 2},
			{2, 0, 0, 1, 5000000000, 1, 5000000000, 7000000000, 0, 1},
			{3, 0, 5000000000, 2, 5000000000, 2, 0, 6000000000, 1, 1},
			{4, 1, 0, 13, 0, 12, 0, 1000000000, 1, 2},
		}},
		{table(60, 3, 1, 1, 1, 0), 0, policy(impl.AssureEndowment, 60, 4, maxSum, 0), 4, 50000000, 3, []reserve{
			{0, 0, 0, 0, 0, 0, 0, 3000000000, 0, 100000000},
			{1, -50000000, 0, -50000000, 0, 0, 0, 1000000000, 0, 100000000},
			{2, 0, 0, 0, 0, 0, 0, 1000000000, 0, 50000000},
			{3, 50000000, 0, 50000000, 0, 0, 0, 1000000000, 50000000, 0},
		}},
		{table(60, 3, 2, 1, 1, 0), 0, policy(impl.AssureLife, 60, 0, 1000, 0), 4, 571, 3, []reserve{
			{0, -1, 0, 0, 0, 1, 0, 3000000000, 0, 858},
			{1, 142, 0, 143, 1000000000, 1, 1000000000, 2000000000, 142, 858},
			{2, 142, 0, 145, 0, 3, 0, 1000000000, 142, 429},
			{3, 571, 0, 574, 0, 3, 0, 1000000000, 571, 1000},
		}},
		{table(60, 10, 8, 6, 5, 5, 3, 0), 0, policy(impl.AssurePure, 60, 5, maxSum, 0), 5, 51176470, 4, []reserve{
			{0, -2, 0, 0, 0, 2, 0, 10000000000, 0, -11029410},
			{1, 11029410, 0, 11029412, 4000000000, 2, 4000000000, 8000000000, 11029410, -26470587},
			{2, 26470586, 4000000000, 26470590, 0, 3, 2000000000, 6000000000, 26470587, -42352940},
			{3, 42352940, 0, 42352944, 0, 4, 0, 5000000000, 42352940, -51176470},
			{4, 51176470, 0, 51176474, 0, 4, 0, 5000000000, 51176470, 0},
		}},
		{table(60, 9, 9, 5, 2, 1, 1, 0), 0, policy(impl.AssureLife, 60, 0, 1, 0), 6, 0, 0, []reserve{
			{0, -2, 0, 0, 0, 2, 0, 9000000000, 0, 1},
			{1, -1, 0, 1, 0, 2, 0, 9000000000, 0, 1},
			{2, -1, 1000000000, 2, 4000000000, 3, 3000000000, 5000000000, 0, 1},
			{3, -1, 0, 8, 0, 9, 0, 2000000000, 0, 1},
			{4, -1, 0, 17, 0, 18, 0, 1000000000, 0, 1},
			{5, 0, 0, 18, 0, 18, 0, 1000000000, 0, 1},
		}},
		{table(60, 3, 3, 2, 1, 1, 0), 0, policy(impl.AssureEndowment, 60, 4, 10, 0), 4, 6, 3, []reserve{
			{0, -2, 0, 0, 0, 2, 0, 3000000000, 0, 8},
			{1, 2, 0, 4, 0, 2, 0, 3000000000, 2, 6},
			{2, 4, 0, 7, 0, 3, 0, 2000000000, 4, 4},
			{3, 6, 0, 12, 0, 6, 0, 1000000000, 6, 0},
		}},
		{table(60, 2, 2, 2, 1, 1, 0), 40, policy(impl.AssureTerm, 60, 2, 10000, 0), 2, 0, 0, []reserve{
			{0, 0, 0, 0, 0, 0, 0, 2000000000, 0, 10000},
			{1, 0, 0, 0, 0, 0, 0, 1923076922, 0, 10000},
		}},
		{x, 0, policy(impl.AssureEndowment, 60, 2, 19, 80), 2, 9, 1, []reserve{
			{0, 0, 0, 0, 0, 0, 0, 100000000000, 0, 10},
			{1, 9, 0, 9, 0, 0, 0, 90000000000, 9, 0},
		}},
		{x, 0, policy(impl.AssurePure, 60, 3, 655, 80), 3, 238, 2, []reserve{
			{0, 0, 0, 0, 0, 0, 0, 100000000000, 0, -100},
			{1, 100, 0, 100, 0, 0, 0, 90000000000, 100, -238},
			{2, 237, 36000000000, 237, 36000000000, 0, 0, 72000000000, 238, 0},
		}},
		// Backward reserves that are negative, and 0 behind the beginning, too.
		{table(60, 3, 2, 2, 2, 2, 1, 0), impl.MaxRate, policy(impl.AssureLife, 60, 0, 1000, 0), 6, 650, 5, []reserve{
			{0, -3, 509085200, 0, 0, 2, 2490914800, 3000000000, 0, 1000},
			{1, -174, 175752084, -169, 333333554, 5, 157581470, 1666666666, 0, 987},
			{2, 12, 175752088, 18, 333333560, 6, 157581472, 1388888888, 13, 764},
			{3, 235, 407233726, 242, 796296684, 7, 389062958, 1157407406, 236, 496},
			{4, 503, 214333330, 512, 24692600, 8, 774865440, 964506170, 504, 350},
			{5, 649, 133959190, 670, 185445020, 21, 51485830, 401877570, 650, 1000},
		}},
		{table(60, 3, 1, 1, 1, 0), 0, policy(impl.AssureLife, 60, 0, 2, 0), 4, 1, 3, []reserve{
			{0, 0, 0, 0, 0, 0, 0, 3000000000, 0, 2},
			{1, -1, 0, -1, 0, 0, 0, 1000000000, 0, 2},
			{2, 0, 0, 0, 0, 0, 0, 1000000000, 0, 1},
			{3, 1, 0, 1, 0, 0, 0, 1000000000, 1, 2},
		}},
		{table(60, 79, 49, 46, 43, 38, 31, 0), impl.MaxRate, policy(impl.AssureEndowment, 60, 4, 100, 0), 4, 55, 3, []reserve{
			{0, -3, 69433636470, 0, 0, 2, 9566363530, 79000000000, 0, 100},
			{1, -10, 31766970640, -6, 36000000902, 4, 4233030262, 40833333317, 0, 81},
			{2, 18, 24266970831, 24, 166667817, 5, 7844141410, 31944444424, 19, 45},
			{3, 54, 8294749493, 61, 1671298420, 6, 18260808156, 24884259229, 55, 0},
		}},
		// Remainders that make together D, and more.
		{table(60, 7, 7, 5, 2, 2, 2, 0), 0, policy(impl.AssureLife, 60, 0, 1, 0), 6, 0, 0, []reserve{
			{0, -3, 3000000000, 0, 0, 2, 4000000000, 7000000000, 0, 1},
			{1, -2, 3000000000, 1, 0, 2, 4000000000, 7000000000, 0, 1},
			{2, -2, 4000000000, 2, 2000000000, 3, 3000000000, 5000000000, 0, 1},
			{3, -2, 0, 7, 0, 9, 0, 2000000000, 0, 1},
			{4, -1, 0, 8, 0, 9, 0, 2000000000, 0, 1},
			{5, 0, 0, 9, 0, 9, 0, 2000000000, 0, 1},
		}},
		{table(60, 8, 8, 7, 5, 5, 3, 0), 0, policy(impl.AssurePure, 60, 5, 2, 0), 5, 1, 4, []reserve{
			{0, -4, 5000000000, 0, 0, 3, 3000000000, 8000000000, 0, 0},
			{1, -3, 5000000000, 1, 0, 3, 3000000000, 8000000000, 0, 0},
			{2, -2, 3000000000, 2, 2000000000, 3, 6000000000, 7000000000, 0, 0},
			{3, -1, 1000000000, 4, 3000000000, 5, 2000000000, 5000000000, 0, -1},
			{4, 0, 1000000000, 5, 3000000000, 5, 2000000000, 5000000000, 1, 0},
		}},
		// The greatest reserve in two years, next to each other and not; in the last year, before it, and nowhere.
		{table(60, 3, 3, 2, 2, 1, 1, 0), 40, policy(impl.AssureTerm, 60, 5, 10, 0), 5, 2, 1, []reserve{
			{0, -1, 60554590, 0, 0, 0, 2939445410, 3000000000, 0, 8},
			{1, 1, 175939207, 2, 230769234, 1, 54830027, 2884615383, 2, 10},
			{2, -1, 1433335660, 1, 674556222, 1, 1090332986, 1849112424, 0, 8},
			{3, 1, 1504455370, 3, 887915352, 1, 1161452696, 1777992714, 2, 10},
			{4, -2, 0, 1, 375032843, 3, 375032843, 854804189, 0, 10},
		}},
		{table(60, 10, 8, 1, 1, 0), 0, policy(impl.AssureEndowment, 60, 3, 10, 0), 3, 4, 1, []reserve{
			{0, -2, 6000000000, 0, 0, 1, 4000000000, 10000000000, 0, 6},
			{1, 3, 2000000000, 5, 0, 1, 6000000000, 8000000000, 4, 6},
			{2, 4, 0, 18, 0, 14, 0, 1000000000, 4, 0},
		}},
		{table(60, 9, 7, 2, 2, 0), impl.MaxRate, policy(impl.AssureLife, 60, 0, 2, 0), 4, 1, 1, []reserve{
			{0, -1, 3827160487, 0, 0, 0, 5172839513, 9000000000, 0, 1},
			{1, 0, 493827155, 0, 5666666668, 0, 5172839513, 5833333331, 1, 2},
			{2, -1, 771604934, 3, 388888895, 3, 1006172849, 1388888888, 0, 1},
			{3, 0, 771604934, 5, 157407417, 4, 543209889, 1157407406, 1, 2},
		}},
		{table(60, 8, 7, 6, 6, 6, 3, 0), 40, policy(impl.AssureTerm, 60, 5, 2, 0), 5, 0, 0, []reserve{
			{0, -3, 1962842195, 0, 0, 2, 6037157805, 8000000000, 0, 2},
			{1, -3, 4232072954, 0, 6076923078, 3, 1844850124, 6730769227, 0, 2},
			{2, -2, 16096620, 1, 5411242609, 3, 5395145989, 5547337272, 0, 2},
			{3, -2, 5136715632, 3, 503982727, 4, 701245237, 5333978142, 0, 2},
			{4, -1, 4931562624, 4, 1324594759, 4, 1521857269, 5128825134, 0, 2},
		}},
		{table(60, 79, 72, 67, 62, 27, 12, 0), 0, policy(impl.AssureTerm, 60, 3, maxSum, 0), 3, 0, 0, []reserve{
			{0, -3, 49000000000, 0, 0, 2, 30000000000, 79000000000, 0, 100000000},
			{1, -1165904, 14000000000, -1165902, 58000000000, 2, 44000000000, 72000000000, 0, 100000000},
			{2, -335480, 38000000000, -335477, 25000000000, 2, 54000000000, 67000000000, 0, 100000000},
		}},
		{table(60, 7, 6, 6, 2, 0), 40, policy(impl.AssurePure, 60, 3, 2, 0), 3, 0, 0, []reserve{
			{0, -3, 6239417390, 0, 0, 2, 760582610, 7000000000, 0, 0},
			{1, -2, 3777878922, 1, 1230769234, 2, 3222121078, 5769230766, 0, 0},
			{2, -1, 3555985428, 2, 1674556222, 2, 3665908066, 5547337272, 0, 0},
		}},
		{table(60, 92, 80, 71, 66, 33, 14, 0), 0, policy(impl.AssureEndowment, 60, 6, 1, 0), 6, 0, 0, []reserve{
			{0, -3, 12000000000, 0, 0, 2, 80000000000, 92000000000, 0, 1},
			{1, -3, 56000000000, 1, 0, 3, 24000000000, 80000000000, 0, 1},
			{2, -2, 29000000000, 2, 9000000000, 3, 51000000000, 71000000000, 0, 1},
			{3, -1, 19000000000, 3, 19000000000, 4, 0, 66000000000, 0, 1},
			{4, -1, 19000000000, 7, 19000000000, 8, 0, 33000000000, 0, 1},
			{5, 0, 0, 18, 12000000000, 18, 12000000000, 14000000000, 0, 0},
		}},
		// Long lives, at the rates at the limits, with products that no int64 holds.
		{longTable, 0, policy(impl.AssureLife, 31, 0, maxSum, 80), 119, 99159663, 118, []reserve{
			{0, -103, 0, 0, 0, 103, 0, 1000000000000000, 0, 99159766},
			{1, 840234, 0, 840337, 0, 103, 0, 1000000000000000, 840234, 98319429},
			{59, 49579780, 0, 49579883, 0, 103, 0, 1000000000000000, 49579780, 49579883},
			{117, 98319326, 0, 98319429, 0, 103, 0, 1000000000000000, 98319326, 840337},
			{118, 99159663, 0, 99159766, 0, 103, 0, 1000000000000000, 99159663, 100000000},
		}},
		{longTable, 0, policy(impl.AssureEndowment, 31, 119, maxSum, 80), 119, 99159663, 118, []reserve{
			{0, -103, 0, 0, 0, 103, 0, 1000000000000000, 0, 99159766},
			{1, 840234, 0, 840337, 0, 103, 0, 1000000000000000, 840234, 98319429},
			{59, 49579780, 0, 49579883, 0, 103, 0, 1000000000000000, 49579780, 49579883},
			{117, 98319326, 0, 98319429, 0, 103, 0, 1000000000000000, 98319326, 840337},
			{118, 99159663, 0, 99159766, 0, 103, 0, 1000000000000000, 99159663, 0},
		}},
		{longTable, 0, policy(impl.AssureTerm, 31, 119, maxSum-1, 80), 119, 99159662, 118, []reserve{
			{0, -104, 0, 0, 0, 104, 0, 1000000000000000, 0, 99159766},
			{1, 840233, 0, 840337, 0, 104, 0, 1000000000000000, 840233, 98319429},
			{59, 49579779, 0, 49579883, 0, 104, 0, 1000000000000000, 49579779, 49579883},
			{117, 98319325, 0, 98319429, 0, 104, 0, 1000000000000000, 98319325, 840337},
			{118, 99159662, 0, 99159766, 0, 104, 0, 1000000000000000, 99159662, 99999999},
		}},
		{longTable, 0, policy(impl.AssurePure, 31, 118, maxSum, 80), 118, 99152542, 117, []reserve{
			{0, -44, 0, 0, 0, 44, 0, 1000000000000000, 0, -847414},
			{1, 847414, 0, 847458, 0, 44, 0, 1000000000000000, 847414, -1694872},
			{59, 49999978, 0, 50000022, 0, 44, 0, 1000000000000000, 49999978, -50847436},
			{116, 98305084, 0, 98305128, 0, 44, 0, 1000000000000000, 98305084, -99152542},
			{117, 99152542, 0, 99152586, 0, 44, 0, 1000000000000000, 99152542, 0},
		}},
		{longTable, 1, policy(impl.AssureEndowment, 31, 119, maxSum, 1000), 119, 99109143, 118, []reserve{
			{0, -92, 802452032000000, 0, 0, 91, 197547968000000, 1000000000000000, 0, 99208343},
			{1, 791656, 667587688000000, 791747, 956044747000000, 91, 288457059000000, 999000999000000, 791657, 98415803},
			{59, 48093817, 373742658000000, 48093914, 126040343000000, 96, 695032224000000, 942734539000000, 48093818, 51066340},
			{117, 98219175, 577585354000000, 98219278, 142506769000000, 102, 454558566000000, 889637151000000, 98219176, 890857},
			{118, 99109142, 754108202000000, 99109245, 410570764000000, 102, 545210964000000, 888748402000000, 99109143, 0},
		}},
		{longTable, impl.MaxRate, policy(impl.AssureEndowment, 31, 108, maxSum, 80), 108, 0, 0, []reserve{
			{0, 0, 0, 0, 0, 0, 0, 1000000000000000, 0, 100000000},
			{1, 0, 0, 0, 0, 0, 0, 833333333000000, 0, 100000000},
			{54, 0, 0, 0, 0, 0, 0, 52990000000, 0, 100000000},
			{106, 0, 0, 0, 0, 0, 0, 2000000, 0, 100000000},
			{107, 0, 0, 0, 0, 0, 0, 1000000, 0, 0},
		}},
		{longTable, impl.MaxRate, policy(impl.AssurePure, 31, 107, 1, 80), 107, 0, 0, []reserve{
			{0, -6, 261000000, 0, 0, 5, 999999739000000, 1000000000000000, 0, 0},
			{1, -6, 259000000, 1, 166666667000000, 7, 166666408000000, 833333333000000, 0, 0},
			{54, -6, 121000000, 113222, 48140000000, 113228, 48019000000, 52990000000, 0, 0},
			{105, -2, 2000000, 1999999911, 2000000, 1999999913, 0, 3000000, 0, 0},
			{106, -1, 1000000, 2999999869, 0, 2999999869, 1000000, 2000000, 0, 0},
		}},
		{lateTable, impl.MaxRate, policy(impl.AssureEndowment, 100, 50, maxSum, 80), 50, 83331249, 49, []reserve{
			{0, -3, 508072096000000, 0, 0, 2, 491927904000000, 1000000000000000, 0, 99997804},
			{1, 2195, 341406161000000, 2198, 333334066000000, 2, 825261238000000, 833333333000000, 2196, 99995167},
			{25, 1037365, 8183163000000, 1037603, 5253933000000, 237, 7553363000000, 10482593000000, 1037366, 98752962},
			{48, 69440875, 18456000000, 69456623, 108824000000, 15748, 90368000000, 158232000000, 69440876, 16668751},
			{49, 83331248, 71200000000, 83350146, 108824000000, 18898, 37624000000, 131860000000, 83331249, 0},
		}},
		{lateTable, 35, policy(impl.AssureLife, 100, 0, maxSum, 0), 50, 95880801, 49, []reserve{
			{0, -14, 386281805000000, 0, 0, 13, 613718195000000, 1000000000000000, 0, 99236642},
			{1, 763357, 391783887000000, 763371, 478932046000000, 14, 87148159000000, 966183574000000, 763358, 98446553},
			{25, 29733178, 207035395000000, 29733210, 280050166000000, 32, 73014771000000, 423146982000000, 29733179, 68462788},
			{48, 91900896, 182723023000000, 91900967, 178184049000000, 70, 187267465000000, 191806439000000, 91900897, 4119199},
			{49, 95880800, 58537890000000, 95880873, 143879295000000, 73, 85341405000000, 185320230000000, 95880801, 100000000},
		}},
		{slowLives, 40, policy(impl.AssureLife, 0, 0, 10000, 80), 119, 8587, 118, []reserve{
			{0, -3, 3581964615, 0, 0, 2, 1418035385, 5000000000, 0, 10000},
			{1, -1166, 2812736719, -1163, 2692310572, 2, 3725727697, 3846153844, 0, 10000},
			{4, -26350, 71989391, -26337, 377570319, 13, 305580928, 854804189, 0, 10000},
			{60, -23121, 57771780, -23001, 68560365, 120, 10788585, 95060390, 0, 10000},
			{117, 7227, 1402236, 8350, 4369467, 1123, 2967231, 10164798, 7228, 1413},
			{118, 8586, 3749940, 9754, 5935533, 1168, 2185593, 9773844, 8587, 10000},
		}},
		{slowLives, impl.MaxRate, policy(impl.AssureEndowment, 0, 107, maxSum, 80), 107, 32106666, 106, []reserve{
			{0, -2, 4863471780, 0, 0, 1, 136528220, 5000000000, 0, 98160000},
			{1, 1839999, 1565925112, 1840001, 35786668, 1, 1803194888, 3333333332, 1840000, 100000000},
			{60, -107243450, 16010, -106953986, 5550, 289463, 7285, 17745, 0, 100000000},
			{105, 3511110, 0, 1715687183, 1, 1712176073, 1, 3, 3511110, 67893334},
			{106, 32106666, 0, 2600370776, 0, 2568264110, 0, 2, 32106666, 0},
		}},
		// D falls very much: gains and backward reserves that are very great, for the few who are left.
		{fallingTable(impl.MaxLives, 108, 1), 0, policy(impl.AssureEndowment, 30, 109, maxSum, 80), 109, 99074074, 107, []reserve{
			{0, -9, 74074000000000, 0, 0, 8, 925926000000000, 1000000000000000, 0, 99074082},
			{1, 925917, 74074000000000, 925926, 0, 8, 925926000000000, 1000000000000000, 925918, 98148156},
			{107, 99074073, 74074000000000, 99074082, 0, 8, 925926000000000, 1000000000000000, 99074074, 925926},
			{108, 99074074, 0, 108000000, 0, 8925926, 0, 1000000000, 99074074, 0},
		}},
		{fallingTable(impl.MaxLives, 108, 1), 0, policy(impl.AssureLife, 30, 0, 1, 80), 109, 0, 0, []reserve{
			{0, -108, 999999000000000, 0, 0, 107, 1000000000, 1000000000000000, 0, 1},
			{107, -1, 999999000000000, 107, 0, 107, 1000000000, 1000000000000000, 0, 1},
			{108, 0, 0, 107000001, 0, 107000001, 0, 1000000000, 0, 1},
		}},
		{fallingTable(impl.MaxLives, 50, 1), impl.MaxRate, policy(impl.AssurePure, 30, 107, maxSum, 80), 107, 49999999, 106, []reserve{
			{0, -6, 659527340832, 0, 0, 5, 999340472659168, 1000000000000000, 0, 0},
			{1, -6, 659525340832, 1, 166666667000000, 7, 166007141659168, 833333333000000, 0, 0},
			{49, -1, 99340832, 45496, 106152000000, 45497, 106052659168, 131860000000, 0, -905},
			{50, 904, 6600, 54597531665, 54805, 54597530761, 48205, 109883, 905, -1087},
			{51, 1086, 6781, 65517157248, 67771, 65517156162, 60990, 91569, 1087, -1305},
			{106, 49999999, 0, 2999670286329583, 0, 2999670236329584, 0, 2, 49999999, 0},
		}},
		{fallingTable(impl.MaxLives, 1, 1), impl.MaxRate, policy(impl.AssureTerm, 30, 107, maxSum, 80), 107, 0, 0, []reserve{
			{0, -1, 302518366536840, 0, 0, 0, 697481633463160, 1000000000000000, 0, 100000000},
			{1, -499996979, 666537847, -499160001, 633613333, 836977, 800408819, 833333333, 0, 100000000},
			{2, -499996974, 583205018, -498992600, 272670122, 1004373, 383909548, 694444444, 0, 100000000},
			{60, -499480430, 6110, 38806331543, 8385, 39305811973, 2275, 17745, 0, 100000000},
			{105, -138888057, 1, 232493738932996, 2, 232493877821053, 1, 3, 0, 100000000},
			{106, -83332834, 0, 348740733398746, 0, 348740816731580, 0, 2, 0, 100000000},
		}},
		{table(60, impl.MaxLives, 1, 0), 0, policy(impl.AssureLife, 60, 0, maxSum-1, 0), 2, 99, 1, []reserve{
			{0, -1, 100000000000, 0, 0, 0, 999900000000000, 1000000000000000, 0, 99999900},
			{1, 99, 0, 999999, 0, 999900, 0, 1000000000, 99, 99999999},
		}},
		{table(60, impl.MaxLives, 1, 0), impl.MaxRate, policy(impl.AssureEndowment, 60, 2, maxSum-1, 0), 2, 83, 1, []reserve{
			{0, -1, 133402933666639, 0, 0, 0, 866597066333361, 1000000000000000, 0, 99999916},
			{1, 82, 400000000, 1039998, 800013333, 1039916, 400013333, 833333333, 83, 0},
		}},
	} {
		b := basis(c.x, c.rate)
		list, code := impl.ReserveList(b, c.p)
		if int64(len(list)) != c.duration || code != impl.ErrNone {
			t.Fatalf("ReserveList(%v, %v) = %v, %d; want %d numbers", b, c.p, list, code, c.duration)
		}
		if n, k, code := impl.GreatestReserve(b, c.p); n != c.greatest || k != c.at || code != impl.ErrNone {
			t.Errorf("GreatestReserve(%v, %v) = %d, %d, %d; want %d, %d", b, c.p, n, k, code, c.greatest, c.at)
		}
		for _, want := range c.years {
			checkYear(t, b, c.p, want)
			if list[want.k] != want.kept {
				t.Errorf("ReserveList(%v, %v) has %d at %d; want %d", b, c.p, list[want.k], want.k, want.kept)
			}
		}
		checkNoYear(t, b, c.p, -1, impl.ErrRange)
		checkNoYear(t, b, c.p, c.duration, impl.ErrRange)
	}
}

// checkNoYear checks that nothing is told about the year k of a policy.
func checkNoYear(t *testing.T, b impl.Basis, p impl.Policy, k, want int64) {
	t.Helper()
	for _, s := range sides {
		if q, r, code := s.side(b, p, k); q != 0 || r != 0 || code != want {
			t.Errorf("%s(%v, %v, %d) = %d, %d, %d; want %d", s.name, b, p, k, q, r, code, want)
		}
	}
	if n, code := impl.DenominatorAt(b, p, k); n != 0 || code != want {
		t.Errorf("DenominatorAt(%v, %v, %d) = %d, %d; want %d", b, p, k, n, code, want)
	}
	checkRisk(t, b, p, k, 0, want)
}

// checkNoList checks that there are no reserves for all years of a policy.
func checkNoList(t *testing.T, b impl.Basis, p impl.Policy, want int64) {
	t.Helper()
	if list, code := impl.ReserveList(b, p); len(list) != 0 || code != want {
		t.Errorf("ReserveList(%v, %v) = %v, %d; want %d", b, p, list, code, want)
	}
	if n, k, code := impl.GreatestReserve(b, p); n != 0 || k != 0 || code != want {
		t.Errorf("GreatestReserve(%v, %v) = %d, %d, %d; want %d", b, p, n, k, code, want)
	}
}

// byHand is a policy that is reckoned with numbers of any size.
type byHand struct {
	b        impl.Basis
	p        impl.Policy
	columns  []impl.Columns
	premium  int64
	duration int64
}

// policyByHand returns a policy that is valid for a basis with some columns.
func policyByHand(b impl.Basis, p impl.Policy, columns []impl.Columns) byHand {
	numerator, payments, _ := fractionsOf(b.Table, p, columns)
	premium := new(big.Int).Add(product(p.Sum, numerator), big.NewInt(payments-1))
	duration := p.Years
	if p.Kind == impl.AssureLife {
		duration = endOf(b.Table) - p.Age
	}
	return byHand{b: b, p: p, columns: columns, premium: premium.Div(premium, big.NewInt(payments)).Int64(), duration: duration}
}

// at returns T, B and D of the year k.
func (h byHand) at(k int64) (*big.Int, *big.Int, *big.Int) {
	p := h.p
	p.Age += k
	if p.Kind != impl.AssureLife {
		p.Years -= k
	}
	numerator, payments, d := fractionsOf(h.b.Table, p, h.columns)
	return big.NewInt(numerator), big.NewInt(payments), big.NewInt(d)
}

// worth returns sum times the Sum plus premium times the net premium.
func (h byHand) worth(sum, premium *big.Int) *big.Int {
	benefits := new(big.Int).Mul(sum, big.NewInt(h.p.Sum))
	return benefits.Add(benefits, new(big.Int).Mul(premium, big.NewInt(h.premium)))
}

// year returns what is told about the year k, in which D is not 0, but for the risk.
func (h byHand) year(k int64) reserve {
	sum, payments, d := h.at(k)
	allSum, allPayments, _ := h.at(0)
	minus := func(a, b *big.Int) *big.Int { return new(big.Int).Sub(a, b) }
	zero := new(big.Int)
	// DivMod rounds down for a divisor that is greater than 0.
	forward, forwardRest := new(big.Int).DivMod(h.worth(sum, minus(zero, payments)), d, new(big.Int))
	backward, backwardRest := new(big.Int).DivMod(h.worth(minus(sum, allSum), minus(allPayments, payments)), d, new(big.Int))
	gain, gainRest := new(big.Int).DivMod(h.worth(minus(zero, allSum), allPayments), d, new(big.Int))
	kept := forward.Int64()
	if forwardRest.Sign() > 0 {
		kept++
	}
	return reserve{
		k:        k,
		forward:  forward.Int64(),
		backward: backward.Int64(),
		gain:     gain.Int64(),
		d:        d.Int64(),
		kept:     max(kept, 0),

		forwardRest:  forwardRest.Int64(),
		backwardRest: backwardRest.Int64(),
		gainRest:     gainRest.Int64(),
	}
}

// risk returns the risk in the year k; D is not 0 in the next one.
func (h byHand) risk(k int64) int64 {
	last := k == h.duration-1
	switch {
	case last && h.p.Kind < impl.AssureEndowment:
		return h.p.Sum
	case last:
		return 0
	case h.p.Kind == impl.AssurePure:
		return -h.year(k + 1).kept
	}
	return h.p.Sum - h.year(k+1).kept
}

// hasD reports whether D is not 0 in the year k.
func (h byHand) hasD(k int64) bool { return h.columns[h.p.Age+k-h.b.Table.First].D != 0 }

// check compares all that is told about a policy with what is found by hand, for some years that may be none of its own, and
// returns how many of these have no D.
func (h byHand) check(t *testing.T, years ...int64) int {
	t.Helper()
	none := 0
	for _, k := range years {
		if k < 0 || k >= h.duration {
			checkNoYear(t, h.b, h.p, k, impl.ErrRange)
			continue
		}
		if !h.hasD(k) {
			checkNoYear(t, h.b, h.p, k, impl.ErrState)
			none++
			continue
		}
		checkSides(t, h.b, h.p, h.year(k))
		if k == h.duration-1 || h.hasD(k+1) {
			checkRisk(t, h.b, h.p, k, h.risk(k), impl.ErrNone)
		} else {
			checkRisk(t, h.b, h.p, k, 0, impl.ErrState)
			none++
		}
	}
	h.checkList(t)
	return none
}

// checkList checks ReserveList and GreatestReserve.
func (h byHand) checkList(t *testing.T) {
	t.Helper()
	want := []int64{}
	for k := range h.duration {
		if !h.hasD(k) {
			checkNoList(t, h.b, h.p, impl.ErrState)
			return
		}
		want = append(want, h.year(k).kept)
	}
	if list, code := impl.ReserveList(h.b, h.p); !slices.Equal(list, want) || code != impl.ErrNone {
		t.Errorf("ReserveList(%v, %v) = %v, %d; want %v", h.b, h.p, list, code, want)
	}
	greatest := slices.Max(want)
	at := int64(slices.Index(want, greatest))
	if n, k, code := impl.GreatestReserve(h.b, h.p); n != greatest || k != at || code != impl.ErrNone {
		t.Errorf("GreatestReserve(%v, %v) = %d, %d, %d; want %d, %d", h.b, h.p, n, k, code, greatest, at)
	}
}

func TestReservesByHand(t *testing.T) {
	random := rand.New(rand.NewSource(111))
	valid, none := 0, 0
	for _, x := range append(sampleTables(), longTable, lateTable) {
		for _, rate := range []int64{0, 40, 1 + random.Int63n(impl.MaxRate), impl.MaxRate} {
			b, columns := basis(x, rate), columnsByHand(x, discountsByHand(rate))
			for _, age := range someAges(x) {
				for _, k := range kinds {
					for _, years := range yearsOfPolicy(x, age) {
						p := policy(k.kind, age, years, 1+random.Int63n(maxSum), random.Int63n(maxLoad+1))
						p.Sum = []int64{1, 1 + random.Int63n(1000), p.Sum, maxSum}[random.Intn(4)]
						if !isValidByHand(x, p, columns) {
							continue
						}
						h := policyByHand(b, p, columns)
						none += h.check(t, -1, 0, 1, random.Int63n(h.duration), h.duration-2, h.duration-1, h.duration)
						valid++
					}
				}
			}
		}
	}
	if valid < 1000 || none < 20 {
		t.Errorf("%d policies that are valid, and %d years without D, were tried", valid, none)
	}
}

// reservesOf asks for a reserve or a gain in the year k and returns it as a number of parts of D; it must be a number of
// cents that is rounded down, with a remainder.
func reservesOf(t *testing.T, side int, b impl.Basis, p impl.Policy, k, d int64) (*big.Int, int64, int64) {
	t.Helper()
	q, r, code := sides[side].side(b, p, k)
	if r < 0 || r >= d || code != impl.ErrNone {
		t.Errorf("%s(%v, %v, %d) = %d, %d, %d; D is %d", sides[side].name, b, p, k, q, r, code, d)
	}
	return new(big.Int).Add(product(q, d), big.NewInt(r)), q, r
}

// TestSidesDifferByTheGain checks promise 11: the backward reserve is the forward reserve plus the gain, exactly.
func TestSidesDifferByTheGain(t *testing.T) {
	found := map[string]int{}
	count := func(name string, is bool) {
		if is {
			found[name]++
		}
	}
	byChance(112, maxSum, func(random *rand.Rand, x impl.LifeTable, rate, age, amount int64) {
		b := basis(x, rate)
		for _, kind := range kinds {
			for _, years := range yearsOfKind(kind.kind, x, age) {
				p := policy(kind.kind, age, years, []int64{1, 1 + amount%1000, amount, maxSum}[random.Intn(4)], random.Int63n(maxLoad+1))
				duration, code := impl.DurationOf(b, p)
				if code != impl.ErrNone {
					continue
				}
				for _, k := range []int64{0, random.Int63n(duration), duration - 1} {
					d, code := impl.DenominatorAt(b, p, k)
					if code == impl.ErrState {
						checkNoYear(t, b, p, k, impl.ErrState)
						found["no D"]++
						continue
					}
					forward, q, r := reservesOf(t, 0, b, p, k, d)
					backward, u, v := reservesOf(t, 1, b, p, k, d)
					gain, g, s := reservesOf(t, 2, b, p, k, d)
					if sum := new(big.Int).Add(forward, gain); sum.Cmp(backward) != 0 {
						t.Errorf("(%v, %v, %d): %d, %d forward, %d, %d backward, and the gain is %d, %d; D is %d", b, p, k, q, r, u, v, g, s, d)
					}
					if k == 0 && (u != 0 || v != 0) || g < 0 {
						t.Errorf("(%v, %v, %d): %d, %d backward, and the gain is %d, %d", b, p, k, u, v, g, s)
					}
					count("carried over", u == q+g+1)
					count("not carried over", u == q+g && r > 0 && s > 0)
					count("negative, even", q < 0 && r == 0)
					count("negative", q < 0 && r > 0)
					count("nothing", q == 0 && r == 0)
					count("positive, even", q > 0 && r == 0)
					count("positive", q > 0 && r > 0)
					count("negative backward", u < 0)
					count("no gain", k > 0 && g == 0 && s == 0)
					count("even gain", k > 0 && g > 0 && s == 0)
					count("gain", k > 0 && g > 0 && s > 0)
				}
			}
		}
	})
	for _, name := range []string{"no D", "carried over", "not carried over", "negative, even", "negative", "nothing", "positive, even", "positive", "negative backward", "no gain", "even gain", "gain"} {
		if found[name] == 0 {
			t.Errorf("reserves that were tried: %v; %s is missing", found, name)
		}
	}
}

// TestGainsAtTheBeginning compares with what chapter 10 tells, and with the net premium.
func TestGainsAtTheBeginning(t *testing.T) {
	byChance(113, maxSum, func(random *rand.Rand, x impl.LifeTable, rate, age, amount int64) {
		b, kind := basis(x, rate), random.Int63n(4)
		for _, years := range yearsOfKind(kind, x, age) {
			p := policy(kind, age, years, amount, random.Int63n(maxLoad+1))
			if !impl.IsPolicy(b, p) {
				continue
			}
			want, rest, _ := impl.PremiumGain(b, p)
			if q, r, code := impl.GainAt(b, p, 0); q != want || r != rest || code != impl.ErrNone {
				t.Errorf("GainAt(%v, %v, 0) = %d, %d, %d; want %d, %d", b, p, q, r, code, want, rest)
			}
			// What is still to be paid out at the beginning is less than what is still to come in, by the gain.
			d, _ := impl.DenominatorAt(b, p, 0)
			if forward, q, r := reservesOf(t, 0, b, p, 0, d); forward.Cmp(new(big.Int).Neg(new(big.Int).Add(product(want, d), big.NewInt(rest)))) != 0 {
				t.Errorf("ForwardReserve(%v, %v, 0) = %d, %d; the gain is %d, %d", b, p, q, r, want, rest)
			}
			// The load is not reserved.
			p.Load = 0
			if q, r, code := impl.GainAt(b, p, 0); q != want || r != rest || code != impl.ErrNone {
				t.Errorf("GainAt(%v, %v, 0) = %d, %d, %d; want %d, %d", b, p, q, r, code, want, rest)
			}
		}
	})
}

// TestReservesYearByYear follows the money: a reserve and the premium of the year are just what is paid out to those who die
// in it and what is reserved for those who are left. Nothing is left at the end but the Sum for those who get it then.
func TestReservesYearByYear(t *testing.T) {
	byChance(114, maxSum, func(random *rand.Rand, x impl.LifeTable, rate, age, amount int64) {
		b, kind := basis(x, rate), random.Int63n(4)
		years := yearsOfKind(kind, x, age)
		p := policy(kind, age, years[random.Intn(len(years))], amount, 80)
		duration, _ := impl.DurationOf(b, p)
		premium, code := impl.NetPremium(b, p)
		if code != impl.ErrNone {
			return
		}
		// Numbers of parts, from the end to the beginning.
		left := new(big.Int)
		if end, _ := impl.ColumnsAt(x, rate, age+duration); kind == impl.AssureEndowment || kind == impl.AssurePure {
			left = product(p.Sum, end.D)
		}
		for k := duration - 1; k >= 0; k-- {
			at, _ := impl.ColumnsAt(x, rate, age+k)
			if kind != impl.AssurePure {
				left.Add(left, product(p.Sum, at.C))
			}
			left.Sub(left, product(premium, at.D))
			if at.D == 0 {
				checkNoYear(t, b, p, k, impl.ErrState)
				continue
			}
			if forward, q, r := reservesOf(t, 0, b, p, k, at.D); forward.Cmp(left) != 0 {
				t.Errorf("ForwardReserve(%v, %v, %d) = %d, %d; want %v / %d", b, p, k, q, r, left, at.D)
			}
		}
	})
}

// TestReservesWithoutD has policies for life at the rate at which the discounts come to 0 before the lives do: the age 138 is
// the last one with D.
func TestReservesWithoutD(t *testing.T) {
	discounts := discountsByHand(impl.MaxRate)
	for _, c := range []struct {
		name string
		x    impl.LifeTable
	}{
		{"all D are there", level(31, impl.MaxLives, 109)},
		{"one year has none", level(31, impl.MaxLives, 110)},
		{"two years have none", level(31, impl.MaxLives, 111)},
		{"many years have none", longTable},
	} {
		t.Run(c.name, func(t *testing.T) {
			b, columns := basis(c.x, impl.MaxRate), columnsByHand(c.x, discounts)
			for age := int64(31); age <= 138; age++ {
				p, last := policy(impl.AssureLife, age, 0, 10000, 80), 138-age
				duration, _ := impl.DurationOf(b, p)
				policyByHand(b, p, columns).check(t, last-2, last-1, last, last+1, last+2, duration-1, duration)
				// All that is lacking is said here once more, without any reckoning.
				whole := endOf(c.x) == 139
				if n, code := impl.DenominatorAt(b, p, last); n != impl.MaxLives || code != impl.ErrNone {
					t.Errorf("DenominatorAt(%d, %d) = %d, %d", age, last, n, code)
				}
				if last > 0 {
					checkRisk(t, b, p, last-1, 10000, impl.ErrNone)
				}
				if whole {
					checkRisk(t, b, p, last, 10000, impl.ErrNone)
				} else {
					checkRisk(t, b, p, last, 0, impl.ErrState)
					checkNoYear(t, b, p, last+1, impl.ErrState)
					checkNoYear(t, b, p, duration-1, impl.ErrState)
					checkNoList(t, b, p, impl.ErrState)
				}
				checkNoYear(t, b, p, -1, impl.ErrRange)
				checkNoYear(t, b, p, duration, impl.ErrRange)
				p.Load = maxLoad + 1
				checkNoYear(t, b, p, last+1, impl.ErrInvalid)
				checkNoList(t, b, p, impl.ErrInvalid)
			}
		})
	}
}

// TestRisksByTheList compares with the numbers of ReserveList.
func TestRisksByTheList(t *testing.T) {
	found := map[string]int{}
	byChance(115, maxSum, func(random *rand.Rand, x impl.LifeTable, rate, age, amount int64) {
		b := basis(x, rate)
		for _, kind := range kinds {
			years := yearsOfKind(kind.kind, x, age)
			p := policy(kind.kind, age, years[random.Intn(len(years))], amount, 80)
			list, code := impl.ReserveList(b, p)
			if code != impl.ErrNone {
				continue
			}
			// The numbers of the list for the next years, and in the end those that make the risk what it is then.
			next := append(list[1:], []int64{0, 0, amount, 0}[kind.kind])
			for k := range int64(len(list)) {
				want := amount - next[k]
				if kind.kind == impl.AssurePure {
					want = -next[k]
				}
				checkRisk(t, b, p, k, want, impl.ErrNone)
				if want < 0 {
					found["negative"]++
				} else if want == 0 {
					found["nothing"]++
				} else if want == amount {
					found["the Sum"]++
				} else {
					found["less"]++
				}
			}
		}
	})
	for _, name := range []string{"negative", "nothing", "the Sum", "less"} {
		if found[name] == 0 {
			t.Errorf("risks that were tried: %v", found)
		}
	}
}

// TestReservesWithinTheSum checks that a number of ReserveList is never more than the Sum, and never less than the forward
// reserve or a cent more than it.
func TestReservesWithinTheSum(t *testing.T) {
	byChance(116, maxSum, func(random *rand.Rand, x impl.LifeTable, rate, age, amount int64) {
		b, kind := basis(x, rate), random.Int63n(4)
		for _, years := range yearsOfKind(kind, x, age) {
			p := policy(kind, age, years, amount, 80)
			list, code := impl.ReserveList(b, p)
			if code != impl.ErrNone {
				checkNoList(t, b, p, code)
				continue
			}
			if duration, _ := impl.DurationOf(b, p); int64(len(list)) != duration || list[0] != 0 {
				t.Errorf("ReserveList(%v, %v) = %v in %d years", b, p, list, duration)
			}
			for k, kept := range list {
				cents, rest, code := impl.ForwardReserve(b, p, int64(k))
				up := cents
				if rest > 0 {
					up++
				}
				if kept != max(up, 0) || kept > amount || code != impl.ErrNone {
					t.Errorf("ReserveList(%v, %v) has %d at %d; the reserve is %d, %d, the code %d", b, p, kept, k, cents, rest, code)
				}
			}
			greatest, at, code := impl.GreatestReserve(b, p)
			if greatest != slices.Max(list) || slices.Index(list, greatest) != int(at) || code != impl.ErrNone {
				t.Errorf("GreatestReserve(%v, %v) = %d, %d, %d for %v", b, p, greatest, at, code, list)
			}
		}
	})
}

// noYears are numbers of years of no policy.
var noYears = []int64{-1, -2, impl.MaxYears, impl.MaxAge, 1 << 32, 1<<32 + 1, -1 << 32, math.MinInt64, math.MinInt64 + 1, math.MaxInt64 - impl.MaxAge, math.MaxInt64 - 60, math.MaxInt64 - 1, math.MaxInt64}

// TestYearsOfNoPolicy has years at their limits, and beyond.
func TestYearsOfNoPolicy(t *testing.T) {
	for _, x := range append(sampleTables(), longTable, lateTable) {
		for _, rate := range []int64{0, impl.MaxRate} {
			b := basis(x, rate)
			for _, age := range []int64{x.First, endOf(x) - 1} {
				for _, kind := range kinds {
					for _, years := range yearsOfKind(kind.kind, x, age) {
						p := policy(kind.kind, age, years, 10000, 80)
						duration, code := impl.DurationOf(b, p)
						if code != impl.ErrNone {
							checkNoYear(t, b, p, 0, impl.ErrInvalid)
							continue
						}
						for _, k := range append(noYears, duration, duration+1) {
							checkNoYear(t, b, p, k, impl.ErrRange)
						}
						for _, k := range []int64{0, duration - 1} {
							if _, code := impl.DenominatorAt(b, p, k); code == impl.ErrRange {
								t.Errorf("DenominatorAt(%v, %v, %d): code %d", b, p, k, code)
							}
						}
					}
				}
			}
		}
	}
}

// checkNothingReserved checks that a policy is not valid, whatever the year is.
func checkNothingReserved(t *testing.T, b impl.Basis, p impl.Policy) {
	t.Helper()
	checkNoList(t, b, p, impl.ErrInvalid)
	for _, k := range []int64{0, 1, -1, impl.MaxYears, math.MinInt64, math.MaxInt64} {
		checkNoYear(t, b, p, k, impl.ErrInvalid)
	}
}

// wrongPolicies are policies with one wrong number, or two, and otherwise those of a policy that is valid for a life table.
func wrongPolicies(x impl.LifeTable, p impl.Policy) []impl.Policy {
	wrong := []impl.Policy{{}}
	for _, n := range noKinds {
		wrong = append(wrong, policy(n, p.Age, p.Years, p.Sum, p.Load), policy(n, p.Age, 1-p.Years, p.Sum, p.Load))
	}
	for _, n := range append(wrongAges(x), endOf(x), impl.MaxAge) {
		wrong = append(wrong, policy(p.Kind, n, p.Years, p.Sum, p.Load))
	}
	for _, n := range wrongYearsOfKind(p.Kind, p.Age) {
		wrong = append(wrong, policy(p.Kind, p.Age, n, p.Sum, p.Load))
	}
	for i, n := range noSums {
		wrong = append(wrong, policy(p.Kind, p.Age, p.Years, n, p.Load), policy(p.Kind, p.Age, p.Years, n, noLoads[i]))
	}
	for _, n := range noLoads {
		wrong = append(wrong, policy(p.Kind, p.Age, p.Years, p.Sum, n))
	}
	return wrong
}

// TestReservesOfNoPolicies has policies with one wrong number, or two.
func TestReservesOfNoPolicies(t *testing.T) {
	for _, x := range append(sampleTables(), longTable, lateTable) {
		for _, kind := range kinds {
			p := policy(kind.kind, x.First, min(kind.kind, 1), 10000, 80)
			for _, rate := range noRates {
				checkNothingReserved(t, basis(x, rate), p)
			}
			for _, rate := range []int64{0, 40, impl.MaxRate} {
				b := basis(x, rate)
				checkYear(t, b, p, policyByHandAt(b, p, 0))
				for _, wrong := range wrongPolicies(x, p) {
					checkNothingReserved(t, b, wrong)
				}
			}
		}
	}
}

// policyByHandAt returns what is told about the year k of a policy that is valid; D is not 0 in the next one.
func policyByHandAt(b impl.Basis, p impl.Policy, k int64) reserve {
	h := policyByHand(b, p, columnsByHand(b.Table, discountsByHand(b.Rate)))
	want := h.year(k)
	want.risk = h.risk(k)
	return want
}

// TestReservesOfNoBasis has life tables that are none, also besides other numbers that are wrong.
func TestReservesOfNoBasis(t *testing.T) {
	for name, x := range noTables() {
		t.Run(name, func(t *testing.T) {
			for _, rate := range []int64{0, 40, impl.MaxRate, -1, impl.MaxRate + 1} {
				for _, age := range append(wrongAges(x), x.First, 60, 61, 100, 150) {
					for kind := int64(-1); kind <= 4; kind++ {
						for _, years := range []int64{0, 1, impl.MaxYears, -1, math.MaxInt64} {
							checkNothingReserved(t, basis(x, rate), policy(kind, age, years, 10000, 80))
							checkNothingReserved(t, basis(x, rate), policy(kind, age, years, 0, maxLoad+1))
						}
					}
				}
			}
		})
	}
}

// TestReserveListsAreNew changes a list that is returned, also behind its end.
func TestReserveListsAreNew(t *testing.T) {
	b, p := basis(table(60, 100, 90, 72, 36, 0), 40), policy(impl.AssureEndowment, 60, 3, 10000, 80)
	want := []int64{0, 3009, 6049}
	for range 3 {
		list, code := impl.ReserveList(b, p)
		if !slices.Equal(list, want) || code != impl.ErrNone {
			t.Fatalf("ReserveList = %v, %d; want %v", list, code, want)
		}
		list = list[:cap(list)]
		for i := range list {
			list[i] = -7
		}
	}
	one, _ := impl.ReserveList(b, p)
	two, _ := impl.ReserveList(b, p)
	one[2] = 0
	if !slices.Equal(two, want) {
		t.Errorf("ReserveList = %v; want %v", two, want)
	}
	if n, k, code := impl.GreatestReserve(b, p); n != 6049 || k != 2 || code != impl.ErrNone {
		t.Errorf("GreatestReserve = %d, %d, %d", n, k, code)
	}
}

// TestTablesOfReservesStay has numbers before and behind the lives of a table.
func TestTablesOfReservesStay(t *testing.T) {
	back := []int64{700, 100, 90, 72, 36, 0, 33, 22, 11}
	b := basis(impl.LifeTable{First: 60, Lives: back[1:6]}, 40)
	for _, kind := range kinds {
		p := policy(kind.kind, 60, min(kind.kind, 1)*3, 10000, 80)
		checkYear(t, b, p, policyByHandAt(b, p, 1))
		impl.ReserveList(b, p)
		impl.GreatestReserve(b, p)
	}
	if !slices.Equal(back, []int64{700, 100, 90, 72, 36, 0, 33, 22, 11}) {
		t.Errorf("an argument is changed: %v", back)
	}
}

func TestReservesKeepNothing(t *testing.T) {
	checkKeepsNothing(t, func(x impl.LifeTable, rate int64) string {
		b, told := basis(x, rate), []any{}
		for _, kind := range kinds {
			// The same policies for all bases, of which each is valid for some.
			for _, age := range []int64{0, 60} {
				p := policy(kind.kind, age, min(kind.kind, 1)*2, 10000, 80)
				for _, s := range sides {
					q, r, code := s.side(b, p, 1)
					told = append(told, q, r, code)
				}
				list, code := impl.ReserveList(b, p)
				n, k, _ := impl.GreatestReserve(b, p)
				risk, _ := impl.RiskAt(b, p, 0)
				d, _ := impl.DenominatorAt(b, p, 1)
				told = append(told, list, code, n, k, risk, d)
			}
		}
		return fmt.Sprint(told)
	})
}
