package tests

import (
	"math"
	"math/big"
	"reflect"
	"slices"
	"testing"

	"loop.example/g01210/impl"
)

type ending = impl.Ending

// runners are dice without a face 0: all those with faces 1 and 2, and others of all kinds.
func runners() []die {
	dice := []die{{1, 1, 1, 1, 1, 9}, {1, 1, 1, 1, 1, 10}, {1, 1, 2, 3, 5, 8}, {3, 3, 3, 4, 4, 4}, {2, 2, 4, 4, 9, 9}, {7, 8, 9, 10, 11, 12}, {1, 30, 30, 30, 30, 30}}
	for twos := range 7 {
		d := alone(1)
		for place := range twos {
			d[5-place] = 2
		}
		dice = append(dice, d)
	}
	for _, d := range someDice() {
		if d[0] > 0 {
			dice = append(dice, d)
		}
	}
	row := someNumbers(17)
	for greatest := range 12 {
		dice = append(dice, moved(row.someDie(greatest), 1))
	}
	return dice
}

// noRunners are arrays that are no dice, and dice with a face 0.
func noRunners() []die {
	arrays := append(noDice(), alone(0), die{0, 1, 2, 3, 4, 5}, die{0, 0, 0, 0, 0, 30}, die{0, 30, 30, 30, 30, 30}, die{0, 0, 1, 1, 2, 2})
	for zeros := 1; zeros <= 6; zeros++ {
		d := ordinary
		clear(d[:zeros])
		arrays = append(arrays, d)
	}
	return arrays
}

// otherGoals, otherBads and otherHolds are numbers that are not valid as such.
func otherGoals() []int { return append([]int{0, 9, 10, 16, 1 << 40}, manyNumbers...) }
func otherBads() []int  { return append([]int{0, 31, 32, 60, 1 << 40}, manyNumbers...) }
func otherHolds() []int { return append([]int{0, 11, 12, 30, 1 << 40}, manyNumbers...) }

// otherPlaces are numbers that are no places of a die.
func otherPlaces() []int { return append([]int{6, 7, 30, 1 << 40}, manyNumbers...) }

// eachCourse calls a function with each list of faces that can come when a die is rolled until an
// end, and the chance of this list.
func eachCourse(d die, isEnd func(faces []int) bool, call func(faces []int, chance *big.Rat)) {
	var roll func(faces []int, ways int)
	roll = func(faces []int, ways int) {
		if isEnd(faces) {
			all := 1
			for range faces {
				all *= 6
			}
			call(faces, ratio(ways, all))
			return
		}
		for place := 0; place < 6; {
			same := 0
			for _, face := range d {
				if face == d[place] {
					same++
				}
			}
			roll(append(slices.Clone(faces), d[place]), ways*same)
			place += same
		}
	}
	roll(nil, 1)
}

// hasRun tells when a run to a goal ends.
func hasRun(goal int) func(faces []int) bool {
	return func(faces []int) bool { return sumOf(faces) >= goal }
}

// hasTurned tells when a turn ends.
func hasTurned(bad, hold int) func(faces []int) bool {
	return func(faces []int) bool { return slices.Contains(faces, bad) || sumOf(faces) >= hold }
}

// runChances tells the chances that a run takes 0, 1, .., 8 rolls, and the mean of their number.
func runChances(d die, goal int) (chances [9]*big.Rat, middle *big.Rat) {
	for k := range chances {
		chances[k] = new(big.Rat)
	}
	middle = new(big.Rat)
	eachCourse(d, hasRun(goal), func(faces []int, chance *big.Rat) {
		k := len(faces)
		chances[k].Add(chances[k], chance)
		middle.Add(middle, chance.Mul(chance, ratio(k, 1)))
	})
	return chances, middle
}

// turnChances tells the chances of all that a turn can end with, and their mean.
func turnChances(d die, bad, hold int) (chances map[int]*big.Rat, middle *big.Rat) {
	chances, middle = map[int]*big.Rat{}, new(big.Rat)
	eachCourse(d, hasTurned(bad, hold), func(faces []int, chance *big.Rat) {
		total := sumOf(faces)
		if slices.Contains(faces, bad) {
			total = 0
		}
		if chances[total] == nil {
			chances[total] = new(big.Rat)
		}
		chances[total].Add(chances[total], chance)
		middle.Add(middle, chance.Mul(chance, ratio(total, 1)))
	})
	return chances, middle
}

func TestRaceLimits(t *testing.T) {
	if impl.MaxGoal != 8 || impl.MaxHold != 10 {
		t.Error("limits", impl.MaxGoal, impl.MaxHold)
	}
}

func TestRunsAgainstAllCourses(t *testing.T) {
	for _, d := range runners() {
		for goal := 1; goal <= 8; goal++ {
			chances, middle := runChances(d, goal)
			table, ok := impl.RunTable(d, goal)
			if !ok || len(table) != goal {
				t.Fatal("RunTable", d, goal, table, ok)
			}
			for place, got := range table {
				if got != fraction(chances[place+1]) {
					t.Error("RunTable", d, goal, place, got)
				}
			}
			if got, ok := impl.MeanRun(d, goal); !ok || got != fraction(middle) {
				t.Error("MeanRun", d, goal, got, ok)
			}
		}
	}
}

func TestChancesOfRunsAreOneTogether(t *testing.T) {
	for _, d := range runners() {
		for goal := 1; goal <= 8; goal++ {
			together, middle := new(big.Rat), new(big.Rat)
			table, _ := impl.RunTable(d, goal)
			for place, chance := range table {
				of := asRatio(t, chance)
				together.Add(together, of)
				middle.Add(middle, of.Mul(of, ratio(place+1, 1)))
			}
			if fraction(together) != [2]int{1, 1} {
				t.Error("the chances of RunTable are together", d, goal, together)
			}
			if got, ok := impl.MeanRun(d, goal); !ok || got != fraction(middle) {
				t.Error("MeanRun is not the mean of RunTable", d, goal, got, ok)
			}
		}
	}
}

func TestKnownRuns(t *testing.T) {
	cases := []struct {
		d     die
		goal  int
		table [][2]int
		mean  [2]int
	}{
		{ordinary, 1, [][2]int{{1, 1}}, [2]int{1, 1}}, {ordinary, 2, [][2]int{{5, 6}, {1, 6}}, [2]int{7, 6}},
		{ordinary, 3, [][2]int{{2, 3}, {11, 36}, {1, 36}}, [2]int{49, 36}},
		{alone(1), 8, [][2]int{{0, 1}, {0, 1}, {0, 1}, {0, 1}, {0, 1}, {0, 1}, {0, 1}, {1, 1}}, [2]int{8, 1}},
		{alone(3), 7, [][2]int{{0, 1}, {0, 1}, {1, 1}, {0, 1}, {0, 1}, {0, 1}, {0, 1}}, [2]int{3, 1}}, {alone(3), 1, [][2]int{{1, 1}}, [2]int{1, 1}},
		{alone(30), 8, [][2]int{{1, 1}, {0, 1}, {0, 1}, {0, 1}, {0, 1}, {0, 1}, {0, 1}, {0, 1}}, [2]int{1, 1}}, {alone(1), 1, [][2]int{{1, 1}}, [2]int{1, 1}},
		{die{1, 1, 1, 1, 1, 8}, 8, [][2]int{{1, 6}, {5, 36}, {25, 216}, {125, 1296}, {625, 7776}, {3125, 46656}, {15625, 279936}, {78125, 279936}}, [2]int{1288991, 279936}},
		{die{1, 1, 1, 2, 2, 2}, 3, [][2]int{{0, 1}, {3, 4}, {1, 4}}, [2]int{9, 4}}, {die{7, 7, 7, 8, 8, 8}, 8, [][2]int{{1, 2}, {1, 2}, {0, 1}, {0, 1}, {0, 1}, {0, 1}, {0, 1}, {0, 1}}, [2]int{3, 2}},
	}
	for _, c := range cases {
		if got, ok := impl.RunTable(c.d, c.goal); !ok || !slices.Equal(got, c.table) {
			t.Error("RunTable", c, got, ok)
		}
		if got, ok := impl.MeanRun(c.d, c.goal); !ok || got != c.mean {
			t.Error("MeanRun", c, got, ok)
		}
	}
}

func TestLandChanceAgainstAllCourses(t *testing.T) {
	for _, d := range runners() {
		for n := range 9 {
			want := new(big.Rat)
			eachCourse(d, hasRun(n), func(faces []int, chance *big.Rat) {
				if sumOf(faces) == n {
					want.Add(want, chance)
				}
			})
			if got, ok := impl.LandChance(d, n); !ok || got != fraction(want) {
				t.Error("LandChance", d, n, got, ok, want)
			}
		}
	}
}

func TestKnownLandings(t *testing.T) {
	cases := []struct {
		d    die
		want [9][2]int
	}{
		{ordinary, [9][2]int{{1, 1}, {1, 6}, {7, 36}, {49, 216}, {343, 1296}, {2401, 7776}, {16807, 46656}, {70993, 279936}, {450295, 1679616}}},
		{alone(1), [9][2]int{{1, 1}, {1, 1}, {1, 1}, {1, 1}, {1, 1}, {1, 1}, {1, 1}, {1, 1}, {1, 1}}},
		{alone(3), [9][2]int{{1, 1}, {0, 1}, {0, 1}, {1, 1}, {0, 1}, {0, 1}, {1, 1}, {0, 1}, {0, 1}}},
		{alone(8), [9][2]int{{1, 1}, {0, 1}, {0, 1}, {0, 1}, {0, 1}, {0, 1}, {0, 1}, {0, 1}, {1, 1}}},
		{alone(30), [9][2]int{{1, 1}, {0, 1}, {0, 1}, {0, 1}, {0, 1}, {0, 1}, {0, 1}, {0, 1}, {0, 1}}},
		{die{1, 1, 1, 2, 2, 2}, [9][2]int{{1, 1}, {1, 2}, {3, 4}, {5, 8}, {11, 16}, {21, 32}, {43, 64}, {85, 128}, {171, 256}}},
	}
	for _, c := range cases {
		for n, want := range c.want {
			if got, ok := impl.LandChance(c.d, n); !ok || got != want {
				t.Error("LandChance", c.d, n, got, ok, want)
			}
		}
	}
}

// A match tells the chances of a race by all rounds that can come.
type match struct {
	a, b  die
	goal  int
	known map[[3]int]*big.Rat
}

// chance tells the chance that the first player wins, or that both get to the goal in the same
// round, when they have these sums.
func (m match) chance(sumOfA, sumOfB int, same bool) *big.Rat {
	key := [3]int{sumOfA, sumOfB}
	if same {
		key[2] = 1
	}
	if m.known[key] == nil {
		m.known[key] = mean(pool{m.a, m.b}, func(roll []int) *big.Rat {
			firstIsThere, secondIsThere := sumOfA+roll[0] >= m.goal, sumOfB+roll[1] >= m.goal
			switch {
			case firstIsThere && (secondIsThere || !same):
				return ratio(1, 1)
			case firstIsThere || secondIsThere:
				return new(big.Rat)
			}
			return m.chance(sumOfA+roll[0], sumOfB+roll[1], same)
		})
	}
	return m.known[key]
}

func TestRacesAgainstAllRounds(t *testing.T) {
	dice := runners()
	row := someNumbers(18)
	pairs := []pool{{ordinary, ordinary}, {ordinary, alone(1)}, {alone(1), ordinary}, {alone(1), alone(1)}, {alone(30), alone(1)}, {alone(1), alone(30)}, {alone(3), alone(4)}}
	for range 30 {
		pairs = append(pairs, pool{dice[row.below(len(dice))], dice[row.below(len(dice))]})
	}
	for _, p := range pairs {
		for goal := 1; goal <= 8; goal++ {
			m := match{a: p[0], b: p[1], goal: goal, known: map[[3]int]*big.Rat{}}
			if got, ok := impl.FirstWins(p[0], p[1], goal); !ok || got != fraction(m.chance(0, 0, false)) {
				t.Error("FirstWins", p, goal, got, ok)
			}
			if got, ok := impl.SameRound(p[0], p[1], goal); !ok || got != fraction(m.chance(0, 0, true)) {
				t.Error("SameRound", p, goal, got, ok)
			}
		}
	}
}

func TestRacesOfBothOrders(t *testing.T) {
	one := ratio(1, 1)
	dice := runners()
	for i, a := range dice {
		for _, b := range []die{a, ordinary, dice[(i+1)%len(dice)]} {
			for goal := 1; goal <= 8; goal++ {
				first, _ := impl.FirstWins(a, b, goal)
				other, _ := impl.FirstWins(b, a, goal)
				same, ok := impl.SameRound(a, b, goal)
				back, okBack := impl.SameRound(b, a, goal)
				if !ok || !okBack || same != back {
					t.Error("SameRound of both orders", a, b, goal, same, back)
				}
				// Either player gets there first, and both do in the same round.
				rest := new(big.Rat).Sub(new(big.Rat).Add(asRatio(t, first), asRatio(t, other)), asRatio(t, same))
				if rest.Cmp(one) != 0 {
					t.Error("the chances of a race are together", a, b, goal, rest)
				}
				half := new(big.Rat).Quo(new(big.Rat).Add(one, asRatio(t, same)), ratio(2, 1))
				if a == b && first != fraction(half) {
					t.Error("FirstWins of a die against itself", a, goal, first, same)
				}
			}
		}
	}
}

func TestKnownRaces(t *testing.T) {
	cases := []struct {
		a, b        die
		goal        int
		first, same [2]int
	}{
		{ordinary, ordinary, 1, [2]int{1, 1}, [2]int{1, 1}}, {ordinary, ordinary, 2, [2]int{31, 36}, [2]int{13, 18}},
		{ordinary, alone(30), 2, [2]int{5, 6}, [2]int{5, 6}}, {alone(30), ordinary, 2, [2]int{1, 1}, [2]int{5, 6}},
		{alone(1), alone(1), 8, [2]int{1, 1}, [2]int{1, 1}}, {alone(1), alone(2), 8, [2]int{0, 1}, [2]int{0, 1}}, {alone(2), alone(1), 8, [2]int{1, 1}, [2]int{0, 1}},
		{alone(4), alone(7), 8, [2]int{1, 1}, [2]int{1, 1}}, {alone(1), alone(30), 1, [2]int{1, 1}, [2]int{1, 1}}, {alone(1), alone(30), 2, [2]int{0, 1}, [2]int{0, 1}},
		{die{1, 1, 1, 2, 2, 2}, die{1, 1, 1, 1, 1, 3}, 3, [2]int{115, 144}, [2]int{5, 18}},
	}
	for _, c := range cases {
		if got, ok := impl.FirstWins(c.a, c.b, c.goal); !ok || got != c.first {
			t.Error("FirstWins", c, got, ok)
		}
		if got, ok := impl.SameRound(c.a, c.b, c.goal); !ok || got != c.same {
			t.Error("SameRound", c, got, ok)
		}
	}
}

func TestBestRunnerAgainstAllMeans(t *testing.T) {
	dice := runners()
	row := someNumbers(19)
	places := map[int]int{}
	for range 120 {
		for size := 1; size <= 6; size++ {
			var p pool
			for range size {
				p = append(p, dice[row.below(len(dice))])
			}
			goal := 1 + row.below(8)
			best, bestMean := 0, [2]int{}
			for place, d := range p {
				middle, _ := impl.MeanRun(d, goal)
				if place == 0 || asRatio(t, middle).Cmp(asRatio(t, bestMean)) < 0 {
					best, bestMean = place, middle
				}
			}
			places[best]++
			if place, middle, ok := impl.BestRunner(p, goal); !ok || place != best || middle != bestMean {
				t.Error("BestRunner", p, goal, place, middle, ok, best, bestMean)
			}
		}
	}
	if len(places) != 6 {
		t.Error("the best places are", places)
	}
}

func TestKnownBestRunners(t *testing.T) {
	cases := []struct {
		row   pool
		goal  int
		place int
		mean  [2]int
	}{
		{pool{ordinary, alone(6)}, 6, 1, [2]int{1, 1}}, {pool{alone(6), ordinary}, 6, 0, [2]int{1, 1}}, {pool{ordinary, ordinary, alone(6), alone(7)}, 6, 2, [2]int{1, 1}},
		{pool{ordinary, alone(30)}, 1, 0, [2]int{1, 1}}, {pool{alone(1), alone(2), alone(3), alone(4), alone(5), alone(6)}, 8, 3, [2]int{2, 1}},
		{pool{alone(1)}, 8, 0, [2]int{8, 1}}, {pool{alone(1), alone(1), alone(1), alone(1), alone(1), ordinary}, 2, 5, [2]int{7, 6}},
		{pool{{1, 1, 1, 2, 2, 2}, {1, 1, 1, 1, 1, 3}}, 3, 0, [2]int{9, 4}}, {pool{{1, 1, 1, 1, 1, 3}, {1, 1, 1, 2, 2, 2}}, 3, 1, [2]int{9, 4}},
	}
	for _, c := range cases {
		if place, middle, ok := impl.BestRunner(c.row, c.goal); !ok || place != c.place || middle != c.mean {
			t.Error("BestRunner", c, place, middle, ok)
		}
	}
}

// badsFor are bad faces of a die, and bad faces that it has not.
func badsFor(d die) []int {
	bads := []int{1, d[0], d[2], d[5], 30}
	for bad := 1; bad <= 30 && len(bads) < 7; bad++ {
		if !slices.Contains(d[:], bad) {
			bads = append(bads, bad)
		}
	}
	slices.Sort(bads)
	return slices.Compact(bads)
}

// checkTurn compares all that chapter 7 tells of a turn with all its courses, and returns the
// mean.
func checkTurn(t *testing.T, d die, bad, hold int) *big.Rat {
	t.Helper()
	chances, middle := turnChances(d, bad, hold)
	var want []ending
	for total := range 41 {
		if chances[total] != nil {
			want = append(want, ending{Total: total, Chance: fraction(chances[total])})
		}
	}
	if got, ok := impl.HoldEnds(d, bad, hold); !ok || !slices.Equal(got, want) || len(want) != len(chances) {
		t.Fatal("HoldEnds", d, bad, hold, got, ok, want)
	}
	if got, ok := impl.HoldMean(d, bad, hold); !ok || got != fraction(middle) {
		t.Error("HoldMean", d, bad, hold, got, ok)
	}
	bust := [2]int{0, 1}
	if chances[0] != nil {
		bust = fraction(chances[0])
	}
	if got, ok := impl.BustChance(d, bad, hold); !ok || got != bust {
		t.Error("BustChance", d, bad, hold, got, ok, bust)
	}
	return middle
}

func TestTurnsAgainstAllCourses(t *testing.T) {
	holds := map[int]bool{}
	for _, d := range runners() {
		for _, bad := range badsFor(d) {
			best, most := 0, new(big.Rat)
			for hold := 1; hold <= 10; hold++ {
				if middle := checkTurn(t, d, bad, hold); best == 0 || middle.Cmp(most) > 0 {
					best, most = hold, middle
				}
			}
			holds[best] = true
			if hold, middle, ok := impl.BestHold(d, bad); !ok || hold != best || middle != fraction(most) {
				t.Error("BestHold", d, bad, hold, middle, ok, best, most)
			}
		}
	}
	if len(holds) < 6 || !holds[1] || !holds[10] {
		t.Error("the best holds are", holds)
	}
}

func TestChancesOfTurnsAreOneTogether(t *testing.T) {
	grown := 0
	for _, d := range runners() {
		for bad := 1; bad <= 30; bad++ {
			last := new(big.Rat)
			for hold := 1; hold <= 10; hold++ {
				ends, ok := impl.HoldEnds(d, bad, hold)
				together, middle := new(big.Rat), new(big.Rat)
				for i, end := range ends {
					of := asRatio(t, end.Chance)
					if of.Sign() <= 0 || i > 0 && ends[i-1].Total >= end.Total {
						t.Fatal("HoldEnds", d, bad, hold, ends)
					}
					together.Add(together, of)
					middle.Add(middle, of.Mul(of, ratio(end.Total, 1)))
				}
				if !ok || fraction(together) != [2]int{1, 1} {
					t.Error("the chances of HoldEnds are together", d, bad, hold, ok, together)
				}
				if got, ok := impl.HoldMean(d, bad, hold); !ok || got != fraction(middle) {
					t.Error("HoldMean is not the mean of HoldEnds", d, bad, hold, got, ok)
				}
				chance, ok := impl.BustChance(d, bad, hold)
				bust := asRatio(t, chance)
				if !ok || bust.Cmp(last) < 0 || (bust.Sign() > 0) != (ends[0].Total == 0) {
					t.Error("BustChance", d, bad, hold, chance, ok, last)
				}
				if hold > 1 {
					grown += bust.Cmp(last)
				}
				last = bust
			}
		}
	}
	if grown < 100 {
		t.Error("few turns are bust more often with a greater hold", grown)
	}
}

func TestBadFacesThatNoDieHas(t *testing.T) {
	for _, d := range runners() {
		bests := map[[3]int]bool{}
		for bad := 1; bad <= 30; bad++ {
			if slices.Contains(d[:], bad) {
				continue
			}
			for hold := 1; hold <= 10; hold++ {
				if got, ok := impl.BustChance(d, bad, hold); !ok || got != [2]int{0, 1} {
					t.Error("BustChance", d, bad, hold, got, ok)
				}
				ends, ok := impl.HoldEnds(d, bad, hold)
				if !ok || len(ends) == 0 || ends[0].Total < hold {
					t.Error("HoldEnds", d, bad, hold, ends, ok)
				}
				if hold <= 8 {
					// Without a bust, the mean of what is added is that of the rolls times that of a face.
					run, _ := impl.MeanRun(d, hold)
					face, _ := impl.MeanOf(pool{d})
					want := new(big.Rat).Mul(asRatio(t, run), asRatio(t, face))
					if got, ok := impl.HoldMean(d, bad, hold); !ok || got != fraction(want) {
						t.Error("HoldMean", d, bad, hold, got, ok, want)
					}
				}
			}
			hold, middle, ok := impl.BestHold(d, bad)
			if !ok {
				t.Error("BestHold", d, bad)
			}
			bests[[3]int{hold, middle[0], middle[1]}] = true
		}
		if len(bests) != 1 {
			t.Error("BestHold is another one for bad faces that the die has not", d, bests)
		}
	}
}

// endWith is the Ending with a total and the chance a/b.
func endWith(total, a, b int) ending { return ending{Total: total, Chance: [2]int{a, b}} }

func TestKnownTurns(t *testing.T) {
	cases := []struct {
		d          die
		bad, hold  int
		ends       []ending
		mean, bust [2]int
	}{
		{ordinary, 1, 1, []ending{endWith(0, 1, 6), endWith(2, 1, 6), endWith(3, 1, 6), endWith(4, 1, 6), endWith(5, 1, 6), endWith(6, 1, 6)}, [2]int{10, 3}, [2]int{1, 6}},
		{ordinary, 6, 2, []ending{endWith(0, 7, 36), endWith(2, 7, 36), endWith(3, 7, 36), endWith(4, 7, 36), endWith(5, 7, 36), endWith(6, 1, 36)}, [2]int{26, 9}, [2]int{7, 36}},
		{ordinary, 7, 1, []ending{endWith(1, 1, 6), endWith(2, 1, 6), endWith(3, 1, 6), endWith(4, 1, 6), endWith(5, 1, 6), endWith(6, 1, 6)}, [2]int{7, 2}, [2]int{0, 1}},
		{alone(6), 6, 1, []ending{endWith(0, 1, 1)}, [2]int{0, 1}, [2]int{1, 1}}, {alone(6), 6, 10, []ending{endWith(0, 1, 1)}, [2]int{0, 1}, [2]int{1, 1}},
		{alone(30), 30, 10, []ending{endWith(0, 1, 1)}, [2]int{0, 1}, [2]int{1, 1}}, {alone(30), 29, 10, []ending{endWith(30, 1, 1)}, [2]int{30, 1}, [2]int{0, 1}},
		{alone(6), 1, 6, []ending{endWith(6, 1, 1)}, [2]int{6, 1}, [2]int{0, 1}}, {alone(6), 1, 7, []ending{endWith(12, 1, 1)}, [2]int{12, 1}, [2]int{0, 1}},
		{alone(1), 30, 10, []ending{endWith(10, 1, 1)}, [2]int{10, 1}, [2]int{0, 1}}, {alone(1), 30, 1, []ending{endWith(1, 1, 1)}, [2]int{1, 1}, [2]int{0, 1}},
		{die{1, 1, 1, 9, 9, 9}, 1, 10, []ending{endWith(0, 3, 4), endWith(18, 1, 4)}, [2]int{9, 2}, [2]int{3, 4}},
		{die{1, 1, 1, 9, 9, 9}, 9, 10, []ending{endWith(0, 1023, 1024), endWith(10, 1, 1024)}, [2]int{5, 512}, [2]int{1023, 1024}},
		{die{1, 1, 1, 1, 1, 30}, 2, 10, []ending{endWith(10, 9765625, 60466176), endWith(30, 1, 6), endWith(31, 5, 36), endWith(32, 25, 216), endWith(33, 125, 1296),
			endWith(34, 625, 7776), endWith(35, 3125, 46656), endWith(36, 15625, 279936), endWith(37, 78125, 1679616), endWith(38, 390625, 10077696), endWith(39, 1953125, 60466176)},
			[2]int{1774519285, 60466176}, [2]int{0, 1}},
	}
	for _, c := range cases {
		if got, ok := impl.HoldEnds(c.d, c.bad, c.hold); !ok || !slices.Equal(got, c.ends) {
			t.Error("HoldEnds", c, got, ok)
		}
		if got, ok := impl.HoldMean(c.d, c.bad, c.hold); !ok || got != c.mean {
			t.Error("HoldMean", c, got, ok)
		}
		if got, ok := impl.BustChance(c.d, c.bad, c.hold); !ok || got != c.bust {
			t.Error("BustChance", c, got, ok)
		}
	}
}

func TestKnownBestHolds(t *testing.T) {
	cases := []struct {
		d    die
		bad  int
		hold int
		mean [2]int
	}{
		{alone(6), 6, 1, [2]int{0, 1}}, {alone(30), 30, 1, [2]int{0, 1}}, {alone(6), 1, 7, [2]int{12, 1}}, {alone(5), 6, 6, [2]int{10, 1}}, {alone(30), 1, 1, [2]int{30, 1}},
		{alone(1), 30, 10, [2]int{10, 1}}, {alone(9), 1, 10, [2]int{18, 1}}, {alone(10), 1, 1, [2]int{10, 1}}, {die{1, 1, 1, 1, 1, 6}, 1, 1, [2]int{1, 1}},
		{die{1, 1, 1, 9, 9, 9}, 1, 1, [2]int{9, 2}}, {die{2, 2, 2, 2, 2, 3}, 3, 9, [2]int{15625, 3888}},
	}
	for _, c := range cases {
		if hold, middle, ok := impl.BestHold(c.d, c.bad); !ok || hold != c.hold || middle != c.mean {
			t.Error("BestHold", c, hold, middle, ok)
		}
	}
}

// somePlaces are places of a die.
func (r *someNumbers) somePlaces(size int) []int {
	var places []int
	for range size {
		places = append(places, r.below(6))
	}
	return places
}

// turned tells by the document's words what comes of a turn.
func turned(d die, bad, hold int, places []int) (total, used int, ended bool) {
	var faces []int
	isEnd := hasTurned(bad, hold)
	for len(faces) < len(places) && !isEnd(faces) {
		faces = append(faces, d[places[len(faces)]])
	}
	if slices.Contains(faces, bad) {
		return 0, len(faces), true
	}
	return sumOf(faces), len(faces), isEnd(faces)
}

func TestTurnsPlayed(t *testing.T) {
	row := someNumbers(20)
	ways := map[[2]bool]int{}
	for _, d := range runners() {
		for _, bad := range badsFor(d) {
			for hold := 1; hold <= 10; hold++ {
				places := row.somePlaces(12)
				for size := range len(places) + 1 {
					want, wantUsed, wantEnded := turned(d, bad, hold, places[:size])
					total, used, ended, ok := impl.PlayTurn(d, bad, hold, places[:size])
					if !ok || total != want || used != wantUsed || ended != wantEnded {
						t.Fatal("PlayTurn", d, bad, hold, places[:size], total, used, ended, ok)
					}
					ways[[2]bool{ended, total > 0}]++
				}
			}
		}
	}
	if len(ways) != 4 {
		t.Error("not all ways to end have come", ways)
	}
}

func TestKnownTurnsPlayed(t *testing.T) {
	cases := []struct {
		d           die
		bad, hold   int
		places      []int
		total, used int
		ended       bool
	}{
		{ordinary, 1, 5, []int{1, 2}, 5, 2, true}, {ordinary, 1, 5, nil, 0, 0, false}, {ordinary, 1, 5, []int{}, 0, 0, false}, {ordinary, 1, 5, []int{1}, 2, 1, false},
		{ordinary, 1, 5, []int{0}, 0, 1, true}, {ordinary, 1, 5, []int{1, 0}, 0, 2, true}, {ordinary, 1, 5, []int{1, 0, 5}, 0, 2, true}, {ordinary, 1, 5, []int{5, 0}, 6, 1, true},
		{ordinary, 1, 10, []int{3, 4}, 9, 2, false}, {ordinary, 1, 10, []int{3, 4, 1}, 11, 3, true}, {ordinary, 1, 10, []int{3, 5, 0}, 10, 2, true},
		{ordinary, 6, 1, []int{0}, 1, 1, true}, {ordinary, 6, 1, []int{5}, 0, 1, true}, {ordinary, 30, 10, []int{0, 0, 0, 0, 0, 0, 0, 0, 0}, 9, 9, false},
		{ordinary, 30, 10, []int{0, 0, 0, 0, 0, 0, 0, 0, 0, 0}, 10, 10, true}, {ordinary, 30, 10, []int{0, 0, 0, 0, 0, 0, 0, 0, 0, 5, 5}, 15, 10, true},
		{alone(30), 30, 1, []int{2}, 0, 1, true}, {alone(30), 1, 10, []int{2}, 30, 1, true}, {die{1, 1, 1, 9, 9, 9}, 9, 10, []int{0, 1, 2, 3, 0}, 0, 4, true},
	}
	for _, c := range cases {
		total, used, ended, ok := impl.PlayTurn(c.d, c.bad, c.hold, c.places)
		if !ok || total != c.total || used != c.used || ended != c.ended {
			t.Error("PlayTurn", c, total, used, ended, ok)
		}
	}
}

// raced tells by the document's words what comes of a race.
func raced(a, b die, goal int, places []int) (winner, used int) {
	var faces [2][]int
	for used, place := range places {
		player := used % 2
		faces[player] = append(faces[player], pool{a, b}[player][place])
		if sumOf(faces[player]) >= goal {
			return player + 1, used + 1
		}
	}
	return 0, len(places)
}

func TestRacesPlayed(t *testing.T) {
	row := someNumbers(21)
	dice := runners()
	winners := map[int]int{}
	for range 400 {
		a, b := dice[row.below(len(dice))], dice[row.below(len(dice))]
		for goal := 1; goal <= 8; goal++ {
			places := row.somePlaces(18)
			for size := range len(places) + 1 {
				want, wantUsed := raced(a, b, goal, places[:size])
				winner, used, ok := impl.PlayRace(a, b, goal, places[:size])
				if !ok || winner != want || used != wantUsed {
					t.Fatal("PlayRace", a, b, goal, places[:size], winner, used, ok)
				}
				winners[winner]++
			}
		}
	}
	if len(winners) != 3 {
		t.Error("not all players have won", winners)
	}
}

func TestKnownRacesPlayed(t *testing.T) {
	cases := []struct {
		a, b         die
		goal         int
		places       []int
		winner, used int
	}{
		{ordinary, ordinary, 4, []int{2, 0, 1}, 1, 3}, {ordinary, ordinary, 4, nil, 0, 0}, {ordinary, ordinary, 4, []int{}, 0, 0}, {ordinary, ordinary, 4, []int{2, 0}, 0, 2},
		{ordinary, ordinary, 4, []int{2}, 0, 1}, {ordinary, ordinary, 4, []int{2, 3}, 2, 2}, {ordinary, ordinary, 4, []int{2, 2, 0, 5}, 1, 3}, {ordinary, ordinary, 4, []int{1, 2, 0, 0, 5}, 2, 4},
		{ordinary, ordinary, 1, []int{0}, 1, 1}, {ordinary, ordinary, 1, []int{0, 0, 0}, 1, 1}, {ordinary, alone(30), 8, []int{5, 0, 5}, 2, 2}, {alone(30), alone(30), 8, []int{5, 0}, 1, 1},
		{alone(1), alone(1), 8, []int{0, 1, 2, 3, 4, 5, 0, 1, 2, 3, 4, 5, 0, 1, 2, 3}, 1, 15}, {alone(1), alone(1), 8, []int{0, 1, 2, 3, 4, 5, 0, 1, 2, 3, 4, 5, 0, 1}, 0, 14},
		{alone(1), alone(2), 8, []int{0, 1, 2, 3, 4, 5, 0, 1}, 2, 8}, {alone(1), alone(2), 8, []int{0, 1, 2, 3, 4, 5, 0}, 0, 7},
	}
	for _, c := range cases {
		if winner, used, ok := impl.PlayRace(c.a, c.b, c.goal, c.places); !ok || winner != c.winner || used != c.used {
			t.Error("PlayRace", c, winner, used, ok)
		}
	}
}

// turnFails checks that no turn is played.
func turnFails(t *testing.T, d die, bad, hold int, places []int) {
	t.Helper()
	if total, used, ended, ok := impl.PlayTurn(d, bad, hold, places); ok || total != 0 || used != 0 || ended {
		t.Error("PlayTurn", d, bad, hold, places, total, used, ended, ok)
	}
}

// raceFails checks that no race is played.
func raceFails(t *testing.T, a, b die, goal int, places []int) {
	t.Helper()
	if winner, used, ok := impl.PlayRace(a, b, goal, places); ok || winner != 0 || used != 0 {
		t.Error("PlayRace", a, b, goal, places, winner, used, ok)
	}
}

func TestPlacesThatAreNoPlaces(t *testing.T) {
	one := alone(1)
	for _, other := range otherPlaces() {
		for used := range 10 {
			places := append(make([]int, used), other)
			turnFails(t, one, 30, 10, places)
			turnFails(t, one, 30, 10, append(places, 0, 0))
			if total, rolled, ended, ok := impl.PlayTurn(one, 30, 10, append(make([]int, 10), places...)); !ok || total != 10 || rolled != 10 || !ended {
				t.Error("PlayTurn with places behind the end", places, total, rolled, ended, ok)
			}
			if used > 0 {
				if total, rolled, ended, ok := impl.PlayTurn(one, 30, used, places); !ok || total != used || rolled != used || !ended {
					t.Error("PlayTurn with a place behind the end", places, total, rolled, ended, ok)
				}
				if total, rolled, ended, ok := impl.PlayTurn(one, 1, 10, places); !ok || total != 0 || rolled != 1 || !ended {
					t.Error("PlayTurn with a place behind a bust", places, total, rolled, ended, ok)
				}
			}
		}
		for used := range 15 {
			places := append(make([]int, used), other)
			raceFails(t, one, one, 8, places)
			raceFails(t, one, one, 8, append(places, 0, 0))
			if winner, rolled, ok := impl.PlayRace(one, one, 8, append(make([]int, 15), places...)); !ok || winner != 1 || rolled != 15 {
				t.Error("PlayRace with places behind the end", places, winner, rolled, ok)
			}
		}
		if winner, rolled, ok := impl.PlayRace(one, alone(8), 8, []int{0, 0, other}); !ok || winner != 2 || rolled != 2 {
			t.Error("PlayRace with a place behind the end", other, winner, rolled, ok)
		}
	}
}

func TestPlacesFarBehindTheEnd(t *testing.T) {
	places := make([]int, 100000)
	if total, used, ended, ok := impl.PlayTurn(alone(1), 2, 10, places); !ok || total != 10 || used != 10 || !ended {
		t.Error("PlayTurn", total, used, ended, ok)
	}
	if winner, used, ok := impl.PlayRace(alone(1), alone(1), 8, places); !ok || winner != 1 || used != 15 {
		t.Error("PlayRace", winner, used, ok)
	}
}

// runFails checks that nothing is told of a run.
func runFails(t *testing.T, d die, goal int) {
	t.Helper()
	if got, ok := impl.RunTable(d, goal); ok || len(got) != 0 {
		t.Error("RunTable", d, goal, got, ok)
	}
	if got, ok := impl.MeanRun(d, goal); ok || got != [2]int{} {
		t.Error("MeanRun", d, goal, got, ok)
	}
}

// landFails checks that no chance to land is told.
func landFails(t *testing.T, d die, n int) {
	t.Helper()
	if got, ok := impl.LandChance(d, n); ok || got != [2]int{} {
		t.Error("LandChance", d, n, got, ok)
	}
}

// bothFail checks that nothing is told of a race.
func bothFail(t *testing.T, a, b die, goal int) {
	t.Helper()
	if got, ok := impl.FirstWins(a, b, goal); ok || got != [2]int{} {
		t.Error("FirstWins", a, b, goal, got, ok)
	}
	if got, ok := impl.SameRound(a, b, goal); ok || got != [2]int{} {
		t.Error("SameRound", a, b, goal, got, ok)
	}
	raceFails(t, a, b, goal, nil)
	raceFails(t, a, b, goal, []int{0, 1, 2})
}

// holdFails checks that nothing is told of a turn.
func holdFails(t *testing.T, d die, bad, hold int) {
	t.Helper()
	if got, ok := impl.HoldEnds(d, bad, hold); ok || len(got) != 0 {
		t.Error("HoldEnds", d, bad, hold, got, ok)
	}
	if got, ok := impl.HoldMean(d, bad, hold); ok || got != [2]int{} {
		t.Error("HoldMean", d, bad, hold, got, ok)
	}
	if got, ok := impl.BustChance(d, bad, hold); ok || got != [2]int{} {
		t.Error("BustChance", d, bad, hold, got, ok)
	}
	turnFails(t, d, bad, hold, nil)
	turnFails(t, d, bad, hold, []int{0, 1, 2})
}

// bestFails checks that no best hold is told.
func bestFails(t *testing.T, d die, bad int) {
	t.Helper()
	if hold, middle, ok := impl.BestHold(d, bad); ok || hold != 0 || middle != [2]int{} {
		t.Error("BestHold", d, bad, hold, middle, ok)
	}
}

// bestRunnerFails checks that no best runner is told.
func bestRunnerFails(t *testing.T, row pool, goal int) {
	t.Helper()
	if place, middle, ok := impl.BestRunner(row, goal); ok || place != 0 || middle != [2]int{} {
		t.Error("BestRunner", row, goal, place, middle, ok)
	}
}

func TestDiceThatCannotRun(t *testing.T) {
	for _, d := range noRunners() {
		for _, goal := range []int{1, 2, 8} {
			runFails(t, d, goal)
			bothFail(t, d, d, goal)
			bothFail(t, d, ordinary, goal)
			bothFail(t, ordinary, d, goal)
			bestRunnerFails(t, pool{d}, goal)
			bestRunnerFails(t, pool{ordinary, d}, goal)
			bestRunnerFails(t, pool{d, alone(30)}, goal)
			bestRunnerFails(t, pool{ordinary, ordinary, ordinary, ordinary, ordinary, d}, goal)
		}
		for n := range 9 {
			landFails(t, d, n)
		}
		for _, bad := range []int{1, 3, 30} {
			for _, hold := range []int{1, 2, 10} {
				holdFails(t, d, bad, hold)
			}
			bestFails(t, d, bad)
		}
	}
	for _, row := range noRows() {
		for goal := 1; goal <= 8; goal++ {
			bestRunnerFails(t, row, goal)
		}
	}
}

func TestNumbersOfNoRunsAndTurns(t *testing.T) {
	for _, d := range runners() {
		for _, goal := range otherGoals() {
			runFails(t, d, goal)
			bothFail(t, d, d, goal)
			bothFail(t, d, ordinary, goal)
			bestRunnerFails(t, pool{d}, goal)
			bestRunnerFails(t, pool{d, ordinary, d}, goal)
			if goal != 0 {
				landFails(t, d, goal)
			}
		}
		for _, bad := range otherBads() {
			for _, hold := range []int{1, 5, 10, 0, 11, -1, math.MaxInt} {
				holdFails(t, d, bad, hold)
			}
			bestFails(t, d, bad)
		}
		for _, hold := range otherHolds() {
			for _, bad := range []int{1, 5, d[0], d[5], 30} {
				holdFails(t, d, bad, hold)
			}
		}
	}
}

func TestArgumentsAreLeftByChapter7(t *testing.T) {
	whole := pool{ordinary, alone(9), {3, 4, 5, 6, 7, 8}, ordinary, alone(1), {1, 2, 2, 3, 3, 4}, {6, 5, 4, 3, 2, 1}, alone(0)}
	kept, places := copyOf(whole), []int{0, 1, 5, 2, 3, -1, 4}
	for size := range len(whole) + 1 {
		for goal := -1; goal <= 11; goal++ {
			impl.BestRunner(whole[:size], goal)
			for _, d := range whole {
				impl.PlayTurn(d, 4, goal, places[:min(size, len(places))])
				impl.PlayRace(d, ordinary, goal, places[:min(size, len(places))])
			}
		}
		if !reflect.DeepEqual(whole, kept) || !slices.Equal(places, []int{0, 1, 5, 2, 3, -1, 4}) {
			t.Fatal("the arguments became", whole, places)
		}
	}
}

func TestResultsOfChapter7AreNew(t *testing.T) {
	for _, d := range []die{ordinary, alone(1), alone(30)} {
		first, _ := impl.RunTable(d, 8)
		second, _ := impl.RunTable(d, 8)
		wanted := slices.Clone(second)
		first = first[:cap(first)]
		for i := range first {
			first[i] = [2]int{-9, -9}
		}
		if again, _ := impl.RunTable(d, 8); !slices.Equal(second, wanted) || !slices.Equal(again, wanted) {
			t.Error("two tables of runs share memory", second, again)
		}
		one, _ := impl.HoldEnds(d, 2, 10)
		other, _ := impl.HoldEnds(d, 2, 10)
		ends := slices.Clone(other)
		one = one[:cap(one)]
		for i := range one {
			one[i] = ending{Total: -9}
		}
		if again, _ := impl.HoldEnds(d, 2, 10); !slices.Equal(other, ends) || !slices.Equal(again, ends) {
			t.Error("two lists of endings share memory", other, again)
		}
	}
}
