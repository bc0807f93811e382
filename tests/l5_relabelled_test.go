package tests

import (
	"math"
	"reflect"
	"slices"
	"testing"

	"loop.example/g01210/impl"
)

type pair = impl.Pair

// widest is the greatest sum of the shapes that allShapes tells.
const widest = 10

// sicherman are the dice of the only other shape with the sums of two ordinary dice.
var sicherman = pair{A: die{1, 2, 2, 3, 3, 4}, B: die{1, 3, 4, 5, 6, 8}}

// ordered returns the Pair of two dice by the document's words.
func ordered(a, b die) pair {
	if before(b, a) {
		return pair{A: b, B: a}
	}
	return pair{A: a, B: b}
}

// moved returns the array with faces that are greater by k.
func moved(d die, k int) die {
	for i := range d {
		d[i] += k
	}
	return d
}

func isBefore(x, y pair) bool { return before(x.A, y.A) || x.A == y.A && before(x.B, y.B) }

// inOrder returns the Pairs of a list in ascending order, each once.
func inOrder(pairs []pair) []pair {
	slices.SortFunc(pairs, func(x, y pair) int {
		switch {
		case isBefore(x, y):
			return -1
		case isBefore(y, x):
			return 1
		}
		return 0
	})
	return slices.Compact(pairs)
}

// waysOfBoth returns the ways of all sums of two dice.
func waysOfBoth(a, b die) [61]int {
	var ways [61]int
	for _, x := range a {
		for _, y := range b {
			ways[x+y]++
		}
	}
	return ways
}

// basesUpTo returns all dice with the first face 0 and the last one at most a number.
func basesUpTo(greatest int) []die {
	var bases []die
	var grow func(d die, place int)
	grow = func(d die, place int) {
		if place == 6 {
			bases = append(bases, d)
			return
		}
		for face := d[place-1]; face <= greatest; face++ {
			d[place] = face
			grow(d, place+1)
		}
	}
	grow(die{}, 1)
	return bases
}

// allShapes returns all Pairs of bases whose greatest sum is at most widest, in lists of those with
// the same sums, in the order in which the first one of them is found.
func allShapes() [][]pair {
	var lists [][]pair
	at := map[[61]int]int{}
	bases := basesUpTo(widest)
	for i, a := range bases {
		for _, b := range bases[i:] {
			if a[5]+b[5] > widest {
				continue
			}
			ways := waysOfBoth(a, b)
			if _, known := at[ways]; !known {
				at[ways] = len(lists)
				lists = append(lists, nil)
			}
			lists[at[ways]] = append(lists[at[ways]], ordered(a, b))
		}
	}
	return lists
}

// wantedPairs returns all Pairs with one of some shapes and a least sum, in ascending order.
func wantedPairs(shapes []pair, least int) []pair {
	var pairs []pair
	for _, x := range shapes {
		for k := range least + 1 {
			if k+x.A[5] <= 30 && least-k+x.B[5] <= 30 {
				pairs = append(pairs, ordered(moved(x.A, k), moved(x.B, least-k)))
			}
		}
	}
	return inOrder(pairs)
}

// shapesOf returns the shapes of Pairs, in ascending order.
func shapesOf(pairs []pair) []pair {
	var shapes []pair
	for _, x := range pairs {
		shapes = append(shapes, ordered(moved(x.A, -x.A[0]), moved(x.B, -x.B[0])))
	}
	return inOrder(shapes)
}

// quotient returns the faces that, added to those of a base, have the ways of sums, if there are
// six of them.
func quotient(ways [61]int, base die) (die, bool) {
	var other die
	found := 0
	for sum := range ways {
		for ; ways[sum] > 0; found++ {
			if found == 6 || sum+base[5] > 60 {
				return die{}, false
			}
			other[found] = sum
			for _, face := range base {
				if ways[sum+face]--; ways[sum+face] < 0 {
					return die{}, false
				}
			}
		}
	}
	return other, found == 6
}

// shapesByDivision returns all shapes with the sums of two bases, by trying all bases.
func shapesByDivision(x pair) []pair {
	ways := waysOfBoth(x.A, x.B)
	var shapes []pair
	var grow func(d die, place int)
	grow = func(d die, place int) {
		if place == 6 {
			if other, ok := quotient(ways, d); ok && other[5] <= 30 {
				shapes = append(shapes, ordered(d, other))
			}
			return
		}
		for face := d[place-1]; face <= 30; face++ {
			// The first face of the other base is 0, so each face is a sum itself.
			if ways[face] > 0 {
				d[place] = face
				grow(d, place+1)
			}
		}
	}
	grow(die{}, 1)
	return inOrder(shapes)
}

// checkPairs compares all that chapter 5 tells of a pool of two dice with the Pairs like it.
func checkPairs(t *testing.T, p pool, want []pair) {
	t.Helper()
	if !slices.Contains(want, ordered(p[0], p[1])) {
		t.Fatal("both dice are no Pair like the pool", p, want)
	}
	got, ok := impl.PairsLike(p)
	if !ok || !slices.Equal(got, want) {
		t.Fatal("PairsLike", p, got, ok, want)
	}
	if shapes, ok := impl.ShapesLike(p); !ok || !slices.Equal(shapes, shapesOf(want)) {
		t.Fatal("ShapesLike", p, shapes, ok, shapesOf(want))
	}
	var double die
	hasDouble := false
	companions := map[die]die{}
	for _, x := range want {
		if x.A == x.B {
			double, hasDouble = x.A, true
		}
		companions[x.A], companions[x.B] = x.B, x.A
	}
	if d, ok := impl.DoubleOf(p); ok != hasDouble || d != double {
		t.Fatal("DoubleOf", p, d, ok)
	}
	tried := []die{ordinary, alone(0), alone(30), alone(p[0][0]), moved(ordinary, -1)}
	for _, x := range want {
		for place := range 6 {
			// A die that is hardly another one.
			a := x.A
			a[place]++
			slices.Sort(a[:])
			if a[5] <= 30 {
				tried = append(tried, a)
			}
		}
		tried = append(tried, x.A, x.B)
	}
	for _, a := range tried {
		want, has := companions[a]
		if b, ok := impl.CompanionOf(a, p); ok != has || b != want {
			t.Fatal("CompanionOf", a, p, b, ok)
		}
	}
}

func TestPairsLikeAgainstAllPairs(t *testing.T) {
	row := someNumbers(11)
	several := 0
	for i, shapes := range allShapes() {
		if len(shapes) > 1 {
			several++
		}
		// Sums with more than two shapes are rare, and all of them are tried.
		if len(shapes) == 1 && i%300 != 0 || len(shapes) == 2 && several%12 != 0 {
			continue
		}
		room := 60 - shapes[0].A[5] - shapes[0].B[5]
		for _, least := range []int{0, 1 + row.below(4), row.below(room + 1), room} {
			want := wantedPairs(shapes, least)
			x := want[row.below(len(want))]
			p := pool{x.A, x.B}
			if row.below(2) == 0 {
				p = pool{x.B, x.A}
			}
			checkPairs(t, p, want)
		}
	}
	if several < 100 {
		t.Error("few sums have several shapes", several)
	}
}

func TestPairsLikeWidePools(t *testing.T) {
	shapes := []pair{
		{A: die{0, 1, 2, 3, 4, 5}, B: die{0, 6, 12, 18, 24, 30}}, {A: die{0, 0, 0, 1, 1, 1}, B: die{0, 0, 15, 15, 30, 30}},
		{A: die{0, 0, 0, 30, 30, 30}, B: die{0, 0, 0, 30, 30, 30}}, {A: die{0, 0, 0, 0, 0, 30}, B: die{0, 30, 30, 30, 30, 30}},
		{A: die{0, 0, 0, 9, 9, 9}, B: die{0, 1, 2, 3, 4, 5}}, {A: die{0, 1, 4, 9, 16, 25}, B: die{0, 2, 3, 5, 7, 11}},
		{A: die{0, 5, 10, 15, 20, 25}, B: die{0, 5, 10, 15, 20, 25}}, {A: die{0, 0, 0, 0, 0, 0}, B: die{0, 6, 12, 18, 24, 30}},
		{A: die{0, 0, 10, 10, 20, 20}, B: die{0, 0, 0, 5, 5, 5}}, {A: die{0, 1, 10, 11, 20, 21}, B: die{0, 0, 2, 2, 4, 4}},
	}
	row := someNumbers(12)
	for range 12 {
		a, b := row.someDie(30), row.someDie(30)
		shapes = append(shapes, ordered(moved(a, -a[0]), moved(b, -b[0])))
	}
	for _, x := range shapes {
		x = ordered(x.A, x.B)
		all := shapesByDivision(x)
		for _, least := range []int{0, 1, 60 - x.A[5] - x.B[5]} {
			for _, p := range wantedPairs([]pair{x}, least) {
				checkPairs(t, pool{p.B, p.A}, wantedPairs(all, least))
			}
		}
	}
}

func TestPairsOfOneNumberAlone(t *testing.T) {
	for _, a := range []int{0, 1, 2, 14, 15, 29, 30} {
		for b := range 31 {
			var want []pair
			for k := max(0, a+b-30); k <= min(30, a+b); k++ {
				want = append(want, ordered(alone(k), alone(a+b-k)))
			}
			checkPairs(t, pool{alone(a), alone(b)}, inOrder(want))
		}
	}
	// Beside a die with one number alone, all others are that of the sums, moved.
	for _, d := range someDice() {
		checkPairs(t, pool{d, alone(0)}, wantedPairs(shapesByDivision(ordered(moved(d, -d[0]), alone(0))), d[0]))
	}
}

func TestKnownPairsLike(t *testing.T) {
	base := die{0, 1, 2, 3, 4, 5}
	low, high := moved(sicherman.A, -1), moved(sicherman.B, -1)
	two := pool{ordinary, ordinary}
	checkPairs(t, two, []pair{
		{A: low, B: moved(high, 2)}, {A: base, B: moved(ordinary, 1)}, {A: high, B: moved(low, 2)}, sicherman, {A: ordinary, B: ordinary},
	})
	if got, ok := impl.ShapesLike(two); !ok || !slices.Equal(got, []pair{{A: low, B: high}, {A: base, B: base}}) {
		t.Error("ShapesLike", got, ok)
	}
	// At the greatest face, no die can be moved up.
	checkPairs(t, pool{moved(base, 25), moved(base, 25)}, []pair{{A: moved(high, 23), B: moved(low, 27)}, {A: moved(base, 25), B: moved(base, 25)}})
	checkPairs(t, pool{alone(30), alone(30)}, []pair{{A: alone(30), B: alone(30)}})
	checkPairs(t, pool{alone(30), alone(29)}, []pair{{A: alone(29), B: alone(30)}})
	checkPairs(t, pool{alone(0), alone(0)}, []pair{{A: alone(0), B: alone(0)}})
	checkPairs(t, pool{alone(1), alone(0)}, []pair{{A: alone(0), B: alone(1)}})
	// Sums that are told in one way alone have several shapes, too.
	if got, ok := impl.ShapesLike(pool{{0, 6, 12, 18, 24, 30}, base}); !ok || len(got) != 7 || got[0].A != base {
		t.Error("ShapesLike of sums with one way each", got, ok)
	}
	if d, ok := impl.DoubleOf(pool{alone(6), alone(30)}); !ok || d != alone(18) {
		t.Error("DoubleOf", d, ok)
	}
	if d, ok := impl.DoubleOf(pool{alone(6), alone(29)}); ok || d != (die{}) {
		t.Error("DoubleOf an odd sum", d, ok)
	}
	if d, ok := impl.DoubleOf(pool{ordinary, alone(1)}); ok || d != (die{}) {
		t.Error("DoubleOf one ordinary die", d, ok)
	}
	if b, ok := impl.CompanionOf(sicherman.B, two); !ok || b != sicherman.A {
		t.Error("CompanionOf", b, ok)
	}
	if b, ok := impl.CompanionOf(moved(sicherman.B, 2), two); ok || b != (die{}) {
		t.Error("CompanionOf a die that would need faces below 0", b, ok)
	}
	if b, ok := impl.CompanionOf(alone(0), pool{alone(30), alone(1)}); ok || b != (die{}) {
		t.Error("CompanionOf a die that would need a face above 30", b, ok)
	}
	if b, ok := impl.CompanionOf(alone(1), pool{alone(30), alone(1)}); !ok || b != alone(30) {
		t.Error("CompanionOf at the bound", b, ok)
	}
	if b, ok := impl.CompanionOf(ordinary, pool{moved(ordinary, 24), moved(ordinary, 1)}); ok || b != (die{}) {
		t.Error("CompanionOf a die that would need faces above 30", b, ok)
	}
}

// noPairs are Pairs that are not valid.
func noPairs() []pair {
	pairs := []pair{{A: sicherman.B, B: sicherman.A}, {A: alone(1), B: alone(0)}, {A: alone(30), B: ordinary}, {A: die{1, 2, 3, 4, 5, 7}, B: ordinary}}
	for _, d := range noDice() {
		pairs = append(pairs, pair{A: d, B: d}, pair{A: d, B: alone(30)}, pair{A: alone(0), B: d}, pair{A: d, B: ordinary}, pair{A: ordinary, B: d})
	}
	return pairs
}

func TestPairs(t *testing.T) {
	for _, a := range someDice() {
		for _, b := range someDice() {
			if got := impl.IsPair(pair{A: a, B: b}); got != !before(b, a) {
				t.Error("IsPair", a, b, got)
			}
			if got, ok := impl.PairOf(a, b); !ok || got != ordered(a, b) {
				t.Error("PairOf", a, b, got, ok)
			}
		}
	}
	for _, d := range noDice() {
		for _, e := range []die{d, ordinary, alone(0), alone(30)} {
			if got, ok := impl.PairOf(d, e); ok || got != (pair{}) {
				t.Error("PairOf", d, e, got, ok)
			}
			if got, ok := impl.PairOf(e, d); ok || got != (pair{}) {
				t.Error("PairOf", e, d, got, ok)
			}
		}
	}
	for _, x := range noPairs() {
		if impl.IsPair(x) {
			t.Error("this is told to be a Pair", x)
		}
	}
}

// somePairs are Pairs of all dice of someDice, and Pairs that are like others.
func somePairs() []pair {
	var pairs []pair
	dice := someDice()
	row := someNumbers(13)
	for i, d := range dice {
		pairs = append(pairs, ordered(d, d), ordered(d, dice[row.below(len(dice))]), ordered(d, dice[(i+1)%len(dice)]))
	}
	for _, p := range []pool{{ordinary, ordinary}, {ordinary, {1, 1, 1, 10, 10, 10}}, {alone(3), alone(4)}, {ordinary, alone(2)}, {{0, 6, 12, 18, 24, 30}, {0, 1, 2, 3, 4, 5}}} {
		like, _ := impl.PairsLike(p)
		pairs = append(pairs, like...)
	}
	return append(pairs, sicherman)
}

func TestAreLike(t *testing.T) {
	pairs := somePairs()
	alike := 0
	for _, x := range pairs {
		for _, y := range pairs {
			want := waysOfBoth(x.A, x.B) == waysOfBoth(y.A, y.B)
			if got, ok := impl.AreLike(x, y); !ok || got != want {
				t.Fatal("AreLike", x, y, got, ok)
			}
			if !want || x == y {
				continue
			}
			alike++
			p, q := pool{x.A, x.B}, pool{y.A, y.B}
			first, _ := impl.MeanOf(p)
			if second, ok := impl.MeanOf(q); !ok || first != second {
				t.Error("Pairs that are like each other have another mean", x, y, first, second)
			}
			first, _ = impl.SpreadOf(p)
			if second, ok := impl.SpreadOf(q); !ok || first != second {
				t.Error("Pairs that are like each other have another spread", x, y, first, second)
			}
		}
	}
	if alike < 40 {
		t.Error("few Pairs are like each other", alike)
	}
	for _, x := range noPairs() {
		for _, y := range []pair{x, sicherman, {A: ordinary, B: ordinary}, {}} {
			if got, ok := impl.AreLike(x, y); got || ok {
				t.Error("AreLike", x, y, got, ok)
			}
			if got, ok := impl.AreLike(y, x); got || ok {
				t.Error("AreLike", y, x, got, ok)
			}
		}
	}
}

func TestFormsOfPairs(t *testing.T) {
	for _, d := range someDice() {
		if got, ok := impl.BaseOf(d); !ok || got != moved(d, -d[0]) {
			t.Error("BaseOf", d, got, ok)
		}
	}
	for _, d := range noDice() {
		if got, ok := impl.BaseOf(d); ok || got != (die{}) {
			t.Error("BaseOf", d, got, ok)
		}
	}
	for _, x := range append(somePairs(), pair{A: die{1, 3, 3, 3, 3, 3}, B: die{2, 3, 3, 3, 3, 3}}) {
		if got, ok := impl.ShapeOf(x); !ok || got != shapesOf([]pair{x})[0] {
			t.Error("ShapeOf", x, got, ok)
		}
		var both [2]die
		for i, d := range []die{x.A, x.B} {
			for place, face := range d {
				both[i][place] = d[0] + d[5] - face
			}
			slices.Sort(both[i][:])
		}
		got, ok := impl.MirrorPair(x)
		if !ok || got != ordered(both[0], both[1]) {
			t.Error("MirrorPair", x, got, ok)
		}
		if back, ok := impl.MirrorPair(got); !ok || back != x {
			t.Error("MirrorPair twice", x, back, ok)
		}
	}
	for _, x := range noPairs() {
		if got, ok := impl.ShapeOf(x); ok || got != (pair{}) {
			t.Error("ShapeOf", x, got, ok)
		}
		if got, ok := impl.MirrorPair(x); ok || got != (pair{}) {
			t.Error("MirrorPair", x, got, ok)
		}
	}
	// Both dice change their places.
	x := pair{A: die{1, 3, 3, 3, 3, 3}, B: die{2, 3, 3, 3, 3, 3}}
	if got, ok := impl.ShapeOf(x); !ok || got != (pair{A: die{0, 1, 1, 1, 1, 1}, B: die{0, 2, 2, 2, 2, 2}}) {
		t.Error("ShapeOf", got, ok)
	}
	x = pair{A: die{1, 1, 1, 2, 6, 6}, B: die{1, 1, 1, 5, 5, 6}}
	if got, ok := impl.MirrorPair(x); !ok || got != (pair{A: die{1, 1, 5, 6, 6, 6}, B: die{1, 2, 2, 6, 6, 6}}) {
		t.Error("MirrorPair", got, ok)
	}
}

// isSymmetric tells by all outcomes whether a pool is symmetric.
func isSymmetric(p pool) bool {
	ways := map[int]int{}
	least, greatest := math.MaxInt, 0
	eachRoll(p, func(roll []int) {
		ways[sumOf(roll)]++
		least, greatest = min(least, sumOf(roll)), max(greatest, sumOf(roll))
	})
	for sum, number := range ways {
		if ways[least+greatest-sum] != number {
			return false
		}
	}
	return true
}

func TestIsSymmetric(t *testing.T) {
	pools := append(fullPools(), pool{sicherman.A, sicherman.B}, pool{{0, 0, 0, 0, 0, 1}, {0, 1, 1, 1, 1, 1}},
		pool{{0, 0, 0, 0, 0, 1}, {0, 0, 0, 0, 0, 1}}, pool{{0, 0, 0, 0, 0, 1}, {0, 1, 1, 1, 1, 1}, ordinary}, pool{{1, 2, 2, 3, 3, 4}, ordinary, alone(30), {0, 0, 0, 30, 30, 30}})
	symmetric := map[int]int{}
	for _, p := range pools {
		want := isSymmetric(p)
		if got, ok := impl.IsSymmetric(p); !ok || got != want {
			t.Error("IsSymmetric", p, got, ok)
		}
		if want {
			symmetric[len(p)]++
		}
	}
	for size := 1; size <= 4; size++ {
		if symmetric[size] < 2 {
			t.Error("few pools are symmetric", size, symmetric)
		}
	}
	dice := append(someDice(), basesUpTo(4)...)
	for _, d := range dice {
		one, _ := impl.IsSymmetric(pool{d})
		if two, ok := impl.IsSymmetric(pool{d, d}); !ok || one != two {
			t.Error("a die taken twice is symmetric and the die is not", d, one, two, ok)
		}
	}
}

func TestMirrorsOfSymmetricPools(t *testing.T) {
	mirrored := 0
	check := func(p pool) {
		if is, _ := impl.IsSymmetric(p); !is {
			return
		}
		pairs, _ := impl.PairsLike(p)
		for _, x := range pairs {
			mirror, ok := impl.MirrorPair(x)
			if !ok || !slices.Contains(pairs, mirror) {
				t.Error("MirrorPair is not like the symmetric pool", p, x, mirror, ok)
			}
			if mirror != x {
				mirrored++
			}
		}
	}
	for _, x := range somePairs() {
		check(pool{x.A, x.B})
	}
	for i, shapes := range allShapes() {
		if i%7 == 0 {
			check(pool{shapes[0].A, shapes[0].B})
		}
	}
	if mirrored < 10 {
		t.Error("few Pairs have another mirror", mirrored)
	}
}

// oneDie tells by all outcomes the die with the chances of the sums of a pool.
func oneDie(p pool) (die, bool) {
	var ways [121]int
	eachRoll(p, func(roll []int) { ways[sumOf(roll)]++ })
	var faces []int
	all := outcomes(p)
	for sum, number := range ways {
		for times := 1; times <= 6; times++ {
			if number*6 == all*times {
				faces = append(faces, slices.Repeat([]int{sum}, times)...)
			}
		}
	}
	if len(faces) != 6 || faces[5] > 30 {
		return die{}, false
	}
	return die(faces), true
}

func TestOneLike(t *testing.T) {
	thirds, halves := die{0, 0, 1, 1, 2, 2}, die{0, 0, 0, 3, 3, 3}
	pools := append(fullPools(), pool{thirds, halves}, pool{halves, thirds, alone(25)}, pool{halves, thirds, alone(26)}, pool{alone(1), halves, alone(2), thirds},
		pool{alone(10), alone(10), thirds, halves}, pool{{0, 0, 2, 2, 4, 4}, {0, 0, 0, 1, 1, 1}}, pool{{0, 0, 1, 1, 2, 2}, {0, 0, 0, 1, 1, 1}},
		pool{alone(24), ordinary}, pool{alone(25), ordinary}, pool{alone(1), {25, 26, 27, 28, 29, 30}}, pool{alone(10), alone(10), alone(10)}, pool{alone(10), alone(10), alone(11)},
		pool{alone(0), alone(0), alone(0), {0, 0, 0, 0, 0, 30}}, pool{alone(0), alone(1), alone(0), {0, 0, 0, 0, 0, 30}}, pool{alone(7), alone(7), alone(8), alone(8)},
		pool{thirds, thirds}, pool{halves, halves}, pool{halves, halves, halves}, pool{halves, halves, thirds}, pool{thirds, halves, ordinary, alone(0)}, pool{{0, 0, 0, 0, 0, 1}, {0, 1, 1, 1, 1, 1}})
	found := map[int]int{}
	for _, p := range pools {
		want, has := oneDie(p)
		got, ok := impl.OneLike(p)
		if ok != has || got != want {
			t.Error("OneLike", p, got, ok)
		}
		if !ok {
			continue
		}
		found[len(p)]++
		if same, ok := impl.SameSums(p, pool{got}); !ok || !same {
			t.Error("OneLike has other chances", p, got)
		}
		if len(p) == 1 && got != p[0] {
			t.Error("OneLike of one die is another one", p, got)
		}
	}
	for size := 1; size <= 4; size++ {
		if found[size] < 3 {
			t.Error("few pools have one die like them", size, found)
		}
	}
	if got, ok := impl.OneLike(pool{thirds, halves}); !ok || got != (die{0, 1, 2, 3, 4, 5}) {
		t.Error("OneLike", got, ok)
	}
	if got, ok := impl.OneLike(pool{alone(24), ordinary}); !ok || got != (die{25, 26, 27, 28, 29, 30}) {
		t.Error("OneLike at the bound", got, ok)
	}
}

func TestEvenChance(t *testing.T) {
	for _, p := range fullPools() {
		even := 0
		eachRoll(p, func(roll []int) { even += 1 - sumOf(roll)%2 })
		if got, ok := impl.EvenChance(p); !ok || got != fraction(ratio(even, outcomes(p))) {
			t.Error("EvenChance", p, got, ok)
		}
	}
	cases := []struct {
		p    pool
		want [2]int
	}{
		{pool{alone(0)}, [2]int{1, 1}}, {pool{alone(1)}, [2]int{0, 1}}, {pool{alone(29), alone(30)}, [2]int{0, 1}}, {pool{alone(29), alone(29), alone(30)}, [2]int{1, 1}},
		{pool{alone(30), alone(30), alone(30), alone(30)}, [2]int{1, 1}}, {pool{ordinary, ordinary}, [2]int{1, 2}}, {pool{{0, 0, 0, 0, 0, 1}}, [2]int{5, 6}},
		{pool{{0, 0, 0, 0, 0, 1}, {0, 0, 0, 0, 0, 1}}, [2]int{13, 18}},
	}
	for _, c := range cases {
		if got, ok := impl.EvenChance(c.p); !ok || got != c.want {
			t.Error("EvenChance", c.p, got, ok)
		}
	}
}

// failsForTwo checks that the functions for pools of two dice fail for a list.
func failsForTwo(t *testing.T, p pool) {
	t.Helper()
	if got, ok := impl.PairsLike(p); ok || len(got) != 0 {
		t.Error("PairsLike", p, got, ok)
	}
	if got, ok := impl.ShapesLike(p); ok || len(got) != 0 {
		t.Error("ShapesLike", p, got, ok)
	}
	if got, ok := impl.DoubleOf(p); ok || got != (die{}) {
		t.Error("DoubleOf", p, got, ok)
	}
	for _, a := range []die{ordinary, alone(0), alone(15), sicherman.A} {
		if got, ok := impl.CompanionOf(a, p); ok || got != (die{}) {
			t.Error("CompanionOf", a, p, got, ok)
		}
	}
}

func TestRelabelledDiceOfOtherPools(t *testing.T) {
	for _, p := range append(fullPools(), pool{alone(0), alone(0), alone(0)}, pool{ordinary, ordinary, alone(0)}, pool{sicherman.A, alone(0), alone(0), sicherman.B}) {
		if len(p) != 2 {
			failsForTwo(t, p)
		}
	}
	lists := noPools()
	for _, d := range noDice() {
		lists = append(lists, pool{d, d}, pool{d, alone(0)}, pool{alone(30), d})
	}
	for _, p := range lists {
		failsForTwo(t, p)
		if got, ok := impl.OneLike(p); ok || got != (die{}) {
			t.Error("OneLike", p, got, ok)
		}
		if got, ok := impl.IsSymmetric(p); got || ok {
			t.Error("IsSymmetric", p, got, ok)
		}
		if got, ok := impl.EvenChance(p); ok || got != [2]int{} {
			t.Error("EvenChance", p, got, ok)
		}
	}
	for _, d := range noDice() {
		for _, p := range []pool{{ordinary, ordinary}, {alone(0), alone(0)}, {alone(30), alone(30)}, {d, d}, nil} {
			if got, ok := impl.CompanionOf(d, p); ok || got != (die{}) {
				t.Error("CompanionOf", d, p, got, ok)
			}
		}
	}
	// Both arrays have the sums of the pool, but not both are dice.
	for _, a := range []die{{-1, 0, 1, 2, 3, 4}, {6, 5, 4, 3, 2, 1}, {1, 2, 3, 4, 6, 5}} {
		if got, ok := impl.CompanionOf(a, pool{ordinary, ordinary}); ok || got != (die{}) {
			t.Error("CompanionOf", a, got, ok)
		}
	}
}

func TestPoolsAreLeftByChapter5(t *testing.T) {
	whole := pool{{3, 4, 5, 6, 7, 8}, ordinary, {1, 2, 2, 3, 3, 4}, ordinary, alone(9), {6, 5, 4, 3, 2, 1}}
	kept := copyOf(whole)
	for first := range len(whole) {
		for size := range len(whole) - first + 1 {
			p := whole[first : first+size]
			impl.CompanionOf(ordinary, p)
			impl.DoubleOf(p)
			impl.OneLike(p)
			impl.IsSymmetric(p)
			impl.EvenChance(p)
			for _, list := range []func([][6]int) ([]pair, bool){impl.PairsLike, impl.ShapesLike} {
				one, _ := list(p)
				other, _ := list(p)
				wanted := slices.Clone(other)
				one = one[:cap(one)]
				for i := range one {
					one[i] = pair{A: alone(9), B: alone(9)}
				}
				if !reflect.DeepEqual(other, wanted) && len(wanted) > 0 {
					t.Fatal("two lists of Pairs share memory", p)
				}
			}
			if !reflect.DeepEqual(whole, kept) {
				t.Fatal("the dice became", whole)
			}
		}
	}
}
