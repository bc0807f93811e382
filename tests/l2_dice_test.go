package tests

import (
	"fmt"
	"math"
	"math/big"
	"reflect"
	"slices"
	"strings"
	"testing"

	"loop.example/g01210/impl"
)

type (
	die  = [6]int
	pool = [][6]int
)

var ordinary = die{1, 2, 3, 4, 5, 6}

// alone returns the die with one number alone.
func alone(number int) die {
	return die{number, number, number, number, number, number}
}

// someNumbers is a row of numbers that is the same in each run.
type someNumbers uint64

func (r *someNumbers) below(n int) int {
	*r = *r*6364136223846793005 + 1442695040888963407
	return int(uint64(*r)>>33) % n
}

// someDie returns a die with faces up to a number.
func (r *someNumbers) someDie(greatest int) die {
	var d die
	for i := range d {
		d[i] = r.below(greatest + 1)
	}
	slices.Sort(d[:])
	return d
}

// someDice are dice of all kinds: with one number alone, at the bounds, and without a pattern.
func someDice() []die {
	dice := []die{
		ordinary, alone(0), alone(1), alone(7), alone(29), alone(30), {0, 0, 0, 0, 0, 30}, {0, 30, 30, 30, 30, 30},
		{0, 0, 0, 30, 30, 30}, {0, 1, 2, 3, 4, 5}, {25, 26, 27, 28, 29, 30}, {1, 2, 2, 3, 3, 4}, {1, 3, 4, 5, 6, 8},
		{0, 6, 12, 18, 24, 30}, {0, 0, 4, 4, 4, 4}, {3, 3, 3, 3, 3, 3}, {2, 2, 2, 2, 6, 6}, {1, 1, 1, 5, 5, 5}, {0, 0, 0, 0, 0, 1},
		{1, 1, 1, 1, 1, 6}, {1, 4, 4, 4, 4, 4}, {2, 3, 5, 7, 11, 13}, {0, 10, 10, 20, 20, 30},
	}
	row := someNumbers(2)
	for range 12 {
		dice = append(dice, row.someDie(30), row.someDie(6))
	}
	return dice
}

// somePools are pools of one to four dice, of each number several.
func somePools() []pool {
	var pools []pool
	dice := someDice()
	for _, d := range dice {
		pools = append(pools, pool{d})
	}
	pools = append(pools, pool{alone(0), alone(0)}, pool{alone(30), alone(30), alone(30), alone(30)},
		pool{alone(0), alone(0), alone(0), alone(0)}, pool{ordinary, ordinary}, pool{ordinary, ordinary, ordinary},
		pool{ordinary, ordinary, ordinary, ordinary}, pool{{1, 3, 4, 5, 6, 8}, {1, 2, 2, 3, 3, 4}},
		pool{{0, 30, 30, 30, 30, 30}, alone(30), {0, 30, 30, 30, 30, 30}, alone(30)})
	row := someNumbers(3)
	for size := 2; size <= 4; size++ {
		for range 12 {
			var p pool
			for range size {
				p = append(p, dice[row.below(len(dice))])
			}
			pools = append(pools, p)
		}
	}
	return pools
}

// noDice are arrays that are no dice.
func noDice() []die {
	arrays := []die{
		{2, 1, 3, 4, 5, 6}, {6, 5, 4, 3, 2, 1}, {-1, 0, 0, 0, 0, 0}, {0, 0, 0, 0, 0, 31}, {1, 2, 3, 4, 5, 31}, {-1, 2, 3, 4, 5, 6},
		alone(-1), alone(31), alone(math.MinInt), alone(math.MaxInt), {math.MinInt, 0, 0, 0, 0, 0}, {0, 0, 0, 0, 0, math.MaxInt},
		{math.MinInt, 0, 0, 0, 0, math.MaxInt}, {0, 0, 0, 0, 0, -1}, {31, 0, 0, 0, 0, 0}, {0, 0, 0, 0, 0, 1 << 32}, {30, 30, 30, 30, 30, 0},
	}
	for place := range 5 {
		d := ordinary
		d[place], d[place+1] = d[place+1], d[place]
		arrays = append(arrays, d)
	}
	return arrays
}

// noPools are lists that are no pools.
func noPools() []pool {
	pools := []pool{nil, {}, {ordinary, ordinary, ordinary, ordinary, ordinary}, make(pool, 5), make(pool, 100)}
	for _, d := range noDice() {
		pools = append(pools, pool{d}, pool{d, ordinary}, pool{ordinary, d}, pool{ordinary, ordinary, ordinary, d})
	}
	return pools
}

// eachRoll calls a function with the roll of each outcome, in the order of their numbers.
func eachRoll(p pool, call func(roll []int)) {
	places := make([]int, len(p))
	for {
		roll := make([]int, len(p))
		for i, place := range places {
			roll[i] = p[i][place]
		}
		call(roll)
		i := len(places) - 1
		for i >= 0 && places[i] == 5 {
			places[i] = 0
			i--
		}
		if i < 0 {
			return
		}
		places[i]++
	}
}

func sumOf(roll []int) int {
	sum := 0
	for _, face := range roll {
		sum += face
	}
	return sum
}

// outcomes returns the number of outcomes of a pool.
func outcomes(p pool) int {
	n := 0
	eachRoll(p, func([]int) { n++ })
	return n
}

// fraction returns the numerator and the denominator of a number.
func fraction(r *big.Rat) [2]int {
	return [2]int{int(r.Num().Int64()), int(r.Denom().Int64())}
}

// ratio is the number a/b.
func ratio(a, b int) *big.Rat { return big.NewRat(int64(a), int64(b)) }

// asRatio is the number of a fraction, which must have no common divisor.
func asRatio(t *testing.T, f [2]int) *big.Rat {
	t.Helper()
	if f[1] < 1 || fraction(ratio(f[0], f[1])) != f {
		t.Fatal("no fraction", f)
	}
	return ratio(f[0], f[1])
}

// mean is the mean of a number over all rolls of a pool.
func mean(p pool, of func(roll []int) *big.Rat) *big.Rat {
	sum := new(big.Rat)
	eachRoll(p, func(roll []int) { sum.Add(sum, of(roll)) })
	return sum.Quo(sum, ratio(outcomes(p), 1))
}

func copyOf(p pool) pool { return append(pool(nil), p...) }

func TestDiceLimits(t *testing.T) {
	if impl.MaxFace != 30 || impl.MaxPool != 4 {
		t.Error("limits", impl.MaxFace, impl.MaxPool)
	}
}

func TestIsDie(t *testing.T) {
	for _, d := range someDice() {
		if !impl.IsDie(d) {
			t.Error("a die is told to be none", d)
		}
	}
	for _, d := range noDice() {
		if impl.IsDie(d) {
			t.Error("this is told to be a die", d)
		}
	}
	row := someNumbers(4)
	for range 20000 {
		var d die
		for i := range d {
			d[i] = i*4 + row.below(14) - 2
		}
		want := slices.IsSorted(d[:]) && d[0] >= 0 && d[5] <= 30
		if impl.IsDie(d) != want {
			t.Fatal("IsDie is not", want, d)
		}
	}
}

func TestSortDie(t *testing.T) {
	row := someNumbers(5)
	for range 20000 {
		var faces die
		for i := range faces {
			faces[i] = row.below(36) - 2
		}
		if row.below(2) == 0 {
			faces = row.someDie(30)
			faces[row.below(6)], faces[row.below(6)] = faces[row.below(6)], row.below(31)
		}
		want := faces
		slices.Sort(want[:])
		fine := want[0] >= 0 && want[5] <= 30
		if !fine {
			want = die{}
		}
		if got, ok := impl.SortDie(faces); ok != fine || got != want {
			t.Fatal("SortDie", faces, got, ok)
		}
	}
	for place := range 6 {
		for _, face := range []int{-1, 31, math.MinInt, math.MaxInt} {
			faces := ordinary
			faces[place] = face
			if got, ok := impl.SortDie(faces); ok || got != (die{}) {
				t.Error("SortDie", faces, got, ok)
			}
		}
	}
	if got, ok := impl.SortDie(die{30, 0, 30, 0, 30, 0}); !ok || got != (die{0, 0, 0, 30, 30, 30}) {
		t.Error("SortDie of the bounds", got, ok)
	}
	if got, ok := impl.SortDie(alone(9)); !ok || got != alone(9) {
		t.Error("SortDie of one number alone", got, ok)
	}
}

func TestIsPool(t *testing.T) {
	for _, p := range somePools() {
		if !impl.IsPool(p) {
			t.Error("a pool is told to be none", p)
		}
	}
	for _, p := range noPools() {
		if impl.IsPool(p) {
			t.Error("this is told to be a pool", p)
		}
	}
}

func TestSumsAgainstAllOutcomes(t *testing.T) {
	for _, p := range somePools() {
		var want [121]int
		eachRoll(p, func(roll []int) { want[sumOf(roll)]++ })
		got, ok := impl.SumTable(p)
		if !ok || got != want {
			t.Fatal("SumTable", p, got, ok)
		}
		if sumOf(got[:]) != outcomes(p) {
			t.Fatal("SumTable does not add up", p, got)
		}
		atLeast := outcomes(p)
		for n := range 121 {
			if chance, ok := impl.ChanceOfSum(p, n); !ok || chance != fraction(ratio(want[n], outcomes(p))) {
				t.Fatal("ChanceOfSum", p, n, chance, ok)
			}
			if chance, ok := impl.ChanceAtLeast(p, n); !ok || chance != fraction(ratio(atLeast, outcomes(p))) {
				t.Fatal("ChanceAtLeast", p, n, chance, ok)
			}
			atLeast -= want[n]
		}
		for _, n := range []int{-1, 121, 122, -120, 1 << 32, math.MinInt, math.MaxInt} {
			if chance, ok := impl.ChanceOfSum(p, n); ok || chance != [2]int{} {
				t.Error("ChanceOfSum", p, n, chance, ok)
			}
			if chance, ok := impl.ChanceAtLeast(p, n); ok || chance != [2]int{} {
				t.Error("ChanceAtLeast", p, n, chance, ok)
			}
		}
	}
}

func TestMeansAndBoundsAgainstAllOutcomes(t *testing.T) {
	for _, p := range somePools() {
		least, greatest := math.MaxInt, math.MinInt
		eachRoll(p, func(roll []int) {
			least, greatest = min(least, sumOf(roll)), max(greatest, sumOf(roll))
		})
		if a, b, ok := impl.BoundsOf(p); !ok || a != least || b != greatest {
			t.Error("BoundsOf", p, a, b, ok)
		}
		middle := mean(p, func(roll []int) *big.Rat { return ratio(sumOf(roll), 1) })
		if got, ok := impl.MeanOf(p); !ok || got != fraction(middle) {
			t.Error("MeanOf", p, got, ok)
		}
		spread := mean(p, func(roll []int) *big.Rat {
			difference := new(big.Rat).Sub(ratio(sumOf(roll), 1), middle)
			return difference.Mul(difference, difference)
		})
		if got, ok := impl.SpreadOf(p); !ok || got != fraction(spread) {
			t.Error("SpreadOf", p, got, ok)
		}
	}
}

func TestKnownMeansAndSpreads(t *testing.T) {
	cases := []struct {
		p            pool
		mean, spread [2]int
	}{
		{pool{ordinary}, [2]int{7, 2}, [2]int{35, 12}},
		{pool{ordinary, ordinary}, [2]int{7, 1}, [2]int{35, 6}},
		{pool{ordinary, ordinary, ordinary, ordinary}, [2]int{14, 1}, [2]int{35, 3}},
		{pool{alone(0)}, [2]int{0, 1}, [2]int{0, 1}},
		{pool{alone(30), alone(30), alone(30), alone(30)}, [2]int{120, 1}, [2]int{0, 1}},
		{pool{{0, 0, 0, 0, 0, 1}}, [2]int{1, 6}, [2]int{5, 36}},
		{pool{{0, 0, 0, 30, 30, 30}}, [2]int{15, 1}, [2]int{225, 1}},
	}
	for _, c := range cases {
		if got, ok := impl.MeanOf(c.p); !ok || got != c.mean {
			t.Error("MeanOf", c.p, got, ok)
		}
		if got, ok := impl.SpreadOf(c.p); !ok || got != c.spread {
			t.Error("SpreadOf", c.p, got, ok)
		}
	}
}

func TestMeanOfTwoPoolsTogether(t *testing.T) {
	pools := somePools()
	for _, p := range pools {
		for _, q := range pools {
			if len(p)+len(q) > 4 {
				continue
			}
			together := append(copyOf(p), q...)
			a, _ := impl.MeanOf(p)
			b, _ := impl.MeanOf(q)
			both := asRatio(t, a)
			if got, ok := impl.MeanOf(together); !ok || got != fraction(both.Add(both, asRatio(t, b))) {
				t.Error("MeanOf", together, got, ok)
			}
			a, _ = impl.SpreadOf(p)
			b, _ = impl.SpreadOf(q)
			both = asRatio(t, a)
			if got, ok := impl.SpreadOf(together); !ok || got != fraction(both.Add(both, asRatio(t, b))) {
				t.Error("SpreadOf", together, got, ok)
			}
		}
	}
}

func TestTopSums(t *testing.T) {
	for _, p := range somePools() {
		var ways [121]int
		eachRoll(p, func(roll []int) { ways[sumOf(roll)]++ })
		most := 0
		var sums []int
		for sum, number := range ways {
			if number > most {
				most, sums = number, nil
			}
			if number == most && number > 0 {
				sums = append(sums, sum)
			}
		}
		if got, number, ok := impl.TopSums(p); !ok || !slices.Equal(got, sums) || number != most {
			t.Error("TopSums", p, got, number, ok)
		}
	}
	if got, ways, ok := impl.TopSums(pool{ordinary}); !ok || !slices.Equal(got, []int{1, 2, 3, 4, 5, 6}) || ways != 1 {
		t.Error("TopSums of the ordinary die", got, ways, ok)
	}
	if got, ways, ok := impl.TopSums(pool{alone(30), alone(30), alone(30), alone(30)}); !ok || !slices.Equal(got, []int{120}) || ways != 1296 {
		t.Error("TopSums of the greatest pool", got, ways, ok)
	}
	if got, ways, ok := impl.TopSums(pool{ordinary, ordinary, ordinary}); !ok || !slices.Equal(got, []int{10, 11}) || ways != 27 {
		t.Error("TopSums of three dice", got, ways, ok)
	}
}

func TestCountFaces(t *testing.T) {
	for _, d := range someDice() {
		var want [31]int
		for _, face := range d {
			want[face]++
		}
		if got, ok := impl.CountFaces(d); !ok || got != want {
			t.Error("CountFaces", d, got, ok)
		}
	}
	for _, d := range noDice() {
		if got, ok := impl.CountFaces(d); ok || got != [31]int{} {
			t.Error("CountFaces", d, got, ok)
		}
	}
}

func TestOppositeDie(t *testing.T) {
	for _, d := range someDice() {
		var want die
		for i, face := range d {
			want[i] = d[0] + d[5] - face
		}
		slices.Sort(want[:])
		got, ok := impl.OppositeDie(d)
		if !ok || got != want || !impl.IsDie(got) {
			t.Error("OppositeDie", d, got, ok)
		}
		if back, ok := impl.OppositeDie(got); !ok || back != d {
			t.Error("OppositeDie twice", d, back, ok)
		}
		spread, _ := impl.SpreadOf(pool{d})
		if other, ok := impl.SpreadOf(pool{got}); !ok || other != spread {
			t.Error("the spread of the opposite die", d, other, spread)
		}
	}
	for _, d := range noDice() {
		if got, ok := impl.OppositeDie(d); ok || got != (die{}) {
			t.Error("OppositeDie", d, got, ok)
		}
	}
}

func TestShiftDie(t *testing.T) {
	shifts := []int{math.MinInt, math.MinInt + 1, math.MinInt + 30, -1 << 32, 1 << 32, math.MaxInt - 30, math.MaxInt - 1, math.MaxInt}
	for k := -64; k <= 64; k++ {
		shifts = append(shifts, k)
	}
	for _, d := range someDice() {
		for _, k := range shifts {
			var want die
			fine := k >= -d[0] && k <= 30-d[5]
			if fine {
				for i, face := range d {
					want[i] = face + k
				}
			}
			if got, ok := impl.ShiftDie(d, k); ok != fine || got != want {
				t.Fatal("ShiftDie", d, k, got, ok)
			}
		}
	}
	for _, d := range noDice() {
		for _, k := range []int{0, 1, -1, 31, -31, math.MinInt, math.MaxInt} {
			if got, ok := impl.ShiftDie(d, k); ok || got != (die{}) {
				t.Error("ShiftDie", d, k, got, ok)
			}
		}
	}
}

func TestSameSums(t *testing.T) {
	pools := somePools()
	pools = append(pools, pool{alone(30), ordinary}, pool{{0, 0, 0, 1, 1, 1}, {0, 0, 0, 1, 1, 1}}, pool{alone(2), alone(2), alone(3)},
		pool{{0, 0, 0, 2, 2, 2}, {0, 0, 0, 1, 1, 1}, {0, 2, 2, 4, 4, 4}}, pool{ordinary, alone(0)}, pool{{0, 1, 2, 3, 4, 5}, alone(1), alone(0)})
	row := someNumbers(6)
	for _, p := range pools[:len(pools):len(pools)] {
		turned := copyOf(p)
		i, j := row.below(len(p)), row.below(len(p))
		turned[i], turned[j] = turned[j], turned[i]
		pools = append(pools, turned)
	}
	ways, sizes := make([][121]int, len(pools)), make([]int, len(pools))
	for i, p := range pools {
		eachRoll(p, func(roll []int) { ways[i][sumOf(roll)]++ })
		sizes[i] = outcomes(p)
	}
	alike := 0
	for i, p := range pools {
		for j, q := range pools {
			want := true
			for sum := range ways[i] {
				want = want && ways[i][sum]*sizes[j] == ways[j][sum]*sizes[i]
			}
			if want && len(p) != len(q) {
				alike++
			}
			if got, ok := impl.SameSums(p, q); !ok || got != want {
				t.Fatal("SameSums", p, q, got, ok)
			}
		}
	}
	if alike == 0 {
		t.Error("no pools of different sizes with the same sums were compared")
	}
	for _, p := range noPools() {
		for _, q := range []pool{p, {ordinary}} {
			if got, ok := impl.SameSums(p, q); got || ok {
				t.Error("SameSums", p, q, got, ok)
			}
			if got, ok := impl.SameSums(q, p); got || ok {
				t.Error("SameSums", q, p, got, ok)
			}
		}
	}
}

// before compares dice by the document's words.
func before(a, b die) bool {
	for i := range a {
		if a[i] != b[i] {
			return a[i] < b[i]
		}
	}
	return false
}

func TestLessDie(t *testing.T) {
	dice := append(someDice(), die{1, 2, 3, 4, 5, 7}, die{1, 2, 3, 4, 4, 30}, die{1, 1, 30, 30, 30, 30}, die{0, 30, 30, 30, 30, 30})
	for _, a := range dice {
		for _, b := range dice {
			if got, ok := impl.LessDie(a, b); !ok || got != before(a, b) {
				t.Error("LessDie", a, b, got, ok)
			}
		}
	}
	for _, d := range noDice() {
		for _, e := range []die{d, ordinary, alone(30), alone(0)} {
			if got, ok := impl.LessDie(d, e); got || ok {
				t.Error("LessDie", d, e, got, ok)
			}
			if got, ok := impl.LessDie(e, d); got || ok {
				t.Error("LessDie", e, d, got, ok)
			}
		}
	}
}

func TestSortPool(t *testing.T) {
	for _, p := range somePools() {
		got, ok := impl.SortPool(p)
		if !ok || len(got) != len(p) {
			t.Fatal("SortPool", p, got, ok)
		}
		for i := 1; i < len(got); i++ {
			if before(got[i], got[i-1]) {
				t.Error("SortPool has no order", p, got)
			}
		}
		counts := map[die]int{}
		for i := range p {
			counts[p[i]]++
			counts[got[i]]--
		}
		for d, count := range counts {
			if count != 0 {
				t.Error("SortPool has other dice", p, got, d)
			}
		}
	}
	p := pool{{1, 2, 3, 4, 5, 6}, {1, 1, 1, 1, 1, 6}, {0, 30, 30, 30, 30, 30}, {1, 1, 1, 1, 1, 6}}
	want := pool{{0, 30, 30, 30, 30, 30}, {1, 1, 1, 1, 1, 6}, {1, 1, 1, 1, 1, 6}, {1, 2, 3, 4, 5, 6}}
	if got, ok := impl.SortPool(p); !ok || !slices.Equal(got, want) {
		t.Error("SortPool", got, ok)
	}
}

func TestRollAt(t *testing.T) {
	for _, p := range somePools() {
		number := 0
		eachRoll(p, func(roll []int) {
			if got, ok := impl.RollAt(p, number); !ok || !slices.Equal(got, roll) {
				t.Fatal("RollAt", p, number, got, ok)
			}
			number++
		})
		for _, other := range []int{-1, number, number + 1, -number, number * 6, 1296, 1 << 32, math.MinInt, math.MaxInt} {
			if other >= 0 && other < number {
				continue
			}
			if got, ok := impl.RollAt(p, other); ok || len(got) != 0 {
				t.Error("RollAt", p, other, got, ok)
			}
		}
	}
}

// writtenPool writes a pool by the document's words.
func writtenPool(p pool) string {
	var dice []string
	for _, d := range p {
		dice = append(dice, fmt.Sprintf("%d.%d.%d.%d.%d.%d", d[0], d[1], d[2], d[3], d[4], d[5]))
	}
	return strings.Join(dice, " ")
}

func TestPoolTextAndParsePool(t *testing.T) {
	for _, p := range somePools() {
		want := writtenPool(p)
		if text, ok := impl.PoolText(p); !ok || text != want {
			t.Errorf("PoolText(%v) = %q, %v", p, text, ok)
		}
		if read, ok := impl.ParsePool(want); !ok || !slices.Equal(read, p) {
			t.Errorf("ParsePool(%q) = %v, %v", want, read, ok)
		}
	}
}

func TestTextsOfNoPool(t *testing.T) {
	one := "1.2.3.4.5.6"
	texts := []string{
		"", " ", ".", ".....", "..... .....", one + " ", " " + one, one + "  " + one, one + "\n", "\n" + one, one + "\t" + one, one + "," + one,
		"1.2.3.4.5", "1.2.3.4.5.", ".1.2.3.4.5", "1.2.3.4.5.6.", ".1.2.3.4.5.6", "1.2.3.4.5.6.7", "1..2.3.4.5.6", "1.2.3.4.5.6.6",
		"2.1.3.4.5.6", "1.2.3.4.5.31", "-1.2.3.4.5.6", "-0.1.2.3.4.5", "+1.2.3.4.5.6", "01.2.3.4.5.6", "1.2.3.4.5.06", "1.2.3.4.5.6x", "x",
		"1 2 3 4 5 6", "1,2,3,4,5,6", "123456", "1.2.3.4.5.6 1.2.3.4.5", one + " " + "6.5.4.3.2.1", one + " x", "x " + one,
		strings.Repeat(one+" ", 4) + one, strings.Repeat(one+" ", 4), strings.Repeat(" ", 3), one + "\x00", one + "\xff", "\xff" + one,
		"1.2.3.4.5.1000000", "1.2.3.4.5.18446744073709551622", "1.2.3.4.5.4294967302", "0x1.2.3.4.5.6", "1.2.3.4.5.6.1.2.3.4.5.6",
		strings.Repeat(one+" ", 1000), strings.Repeat("1.", 5000), strings.Repeat(" ", 5000), strings.Repeat("9", 100000), strings.Repeat("0", 100000),
	}
	for _, s := range texts {
		if p, ok := impl.ParsePool(s); ok || len(p) != 0 {
			t.Errorf("ParsePool(%s) = %v, %v", short(s), p, ok)
		}
	}
}

// TestChangedPoolTexts reads each text with one byte less, more or changed: the pool that is
// read, if any, must have just this text.
func TestChangedPoolTexts(t *testing.T) {
	check := func(s string) {
		p, ok := impl.ParsePool(s)
		if !ok {
			if len(p) != 0 {
				t.Errorf("ParsePool(%q) = %v", s, p)
			}
			return
		}
		if !impl.IsPool(p) || writtenPool(p) != s {
			t.Errorf("ParsePool(%q) = %v", s, p)
		}
	}
	for _, p := range []pool{{ordinary}, {{0, 9, 10, 19, 20, 30}}, {alone(0), alone(30)}, {ordinary, ordinary, ordinary, ordinary}} {
		text := writtenPool(p)
		for place := range len(text) {
			check(text[:place] + text[place+1:])
			for c := range 256 {
				sign := string([]byte{byte(c)})
				check(text[:place] + sign + text[place+1:])
				check(text[:place] + sign + text[place:])
			}
		}
	}
}

func TestFunctionsOfNoPools(t *testing.T) {
	for _, p := range noPools() {
		if got, ok := impl.SumTable(p); ok || got != [121]int{} {
			t.Error("SumTable", p, got, ok)
		}
		for _, n := range []int{0, 7, 120, -1, 121} {
			if got, ok := impl.ChanceOfSum(p, n); ok || got != [2]int{} {
				t.Error("ChanceOfSum", p, n, got, ok)
			}
			if got, ok := impl.ChanceAtLeast(p, n); ok || got != [2]int{} {
				t.Error("ChanceAtLeast", p, n, got, ok)
			}
			if got, ok := impl.RollAt(p, n); ok || len(got) != 0 {
				t.Error("RollAt", p, n, got, ok)
			}
		}
		if got, ok := impl.MeanOf(p); ok || got != [2]int{} {
			t.Error("MeanOf", p, got, ok)
		}
		if got, ok := impl.SpreadOf(p); ok || got != [2]int{} {
			t.Error("SpreadOf", p, got, ok)
		}
		if a, b, ok := impl.BoundsOf(p); ok || a != 0 || b != 0 {
			t.Error("BoundsOf", p, a, b, ok)
		}
		if sums, ways, ok := impl.TopSums(p); ok || len(sums) != 0 || ways != 0 {
			t.Error("TopSums", p, sums, ways, ok)
		}
		if got, ok := impl.SortPool(p); ok || len(got) != 0 {
			t.Error("SortPool", p, got, ok)
		}
		if got, ok := impl.PoolText(p); ok || got != "" {
			t.Error("PoolText", p, got, ok)
		}
	}
}

func TestPoolsAreLeftAsTheyAre(t *testing.T) {
	whole := pool{{3, 4, 5, 6, 7, 8}, {1, 2, 2, 3, 3, 4}, {2, 2, 2, 2, 6, 6}, ordinary, alone(9), {6, 5, 4, 3, 2, 1}}
	kept := copyOf(whole)
	for size := range len(whole) + 1 {
		p, q := whole[:size], whole[len(whole)-size:]
		for range 2 {
			p, q = q, p
			impl.IsPool(p)
			impl.SumTable(p)
			impl.ChanceOfSum(p, 9)
			impl.ChanceAtLeast(p, 9)
			impl.MeanOf(p)
			impl.SpreadOf(p)
			impl.BoundsOf(p)
			impl.TopSums(p)
			impl.SameSums(p, q)
			impl.RollAt(p, 3)
			impl.PoolText(p)
			if sorted, ok := impl.SortPool(p); ok {
				sorted = sorted[:cap(sorted)]
				for i := range sorted {
					sorted[i] = alone(30)
				}
			}
			if !reflect.DeepEqual(whole, kept) {
				t.Fatal("the dice became", whole)
			}
		}
	}
}

func TestPoolsOfResultsAreNew(t *testing.T) {
	text := "1.2.3.4.5.6 0.0.0.0.0.1"
	first, _ := impl.ParsePool(text)
	second, _ := impl.ParsePool(text)
	first[0] = alone(30)
	if second[0] != ordinary {
		t.Error("two pools that were read share memory")
	}
	first, _ = impl.SortPool(second)
	again, _ := impl.SortPool(second)
	first[0][0] = 30
	if again[0] != (die{0, 0, 0, 0, 0, 1}) {
		t.Error("two sorted pools share memory")
	}
	roll, _ := impl.RollAt(second, 0)
	other, _ := impl.RollAt(second, 0)
	roll[0] = 99
	if other[0] != 1 || second[0] != ordinary {
		t.Error("rolls share memory")
	}
	sums, _, _ := impl.TopSums(second)
	kept := slices.Clone(sums)
	others, _, _ := impl.TopSums(second)
	others[0] = 99
	if !slices.Equal(sums, kept) {
		t.Error("sums share memory")
	}
}
