package luby_test

import (
	"math"
	"slices"
	"testing"

	"replevin/api"
	"replevin/luby"
)

// at is At, word by word.
func at(i int) int {
	for k := 1; ; k++ {
		if i == 1<<k-1 {
			return 1 << (k - 1)
		}
		if 1<<(k-1) <= i && i < 1<<k-1 {
			return at(i - 1<<(k-1) + 1)
		}
	}
}

func TestAt(t *testing.T) {
	for i, want := range []int{0, 1, 1, 2, 1, 1, 2, 4, 1, 1, 2, 1, 1, 2, 4, 8, 1} {
		if luby.At(i) != want {
			t.Error(i, luby.At(i))
		}
	}
	for i := 1; i < 100000; i++ {
		if n := luby.At(i); n != at(i) || n&(n-1) != 0 || n > i {
			t.Fatal(i, n)
		}
	}
	for _, i := range []int{1 << 20, 1<<29 - 1, 1<<29 - 2, 999999999, 1000000000} {
		if luby.At(i) != at(i) {
			t.Error(i, luby.At(i))
		}
	}
	for _, i := range []int{0, -1, 1000000001, math.MaxInt, math.MinInt} {
		if luby.At(i) != 0 {
			t.Error(i, luby.At(i))
		}
	}
}

func TestFirstAndSum(t *testing.T) {
	if !slices.Equal(luby.First(7), []int{1, 1, 2, 1, 1, 2, 4}) || !slices.Equal(luby.First(1), []int{1}) || luby.Sum(7) != 12 || luby.Sum(1) != 1 {
		t.Error(luby.First(7))
	}
	sum := 0
	for i, n := range luby.First(100000) {
		sum += n
		if n != at(i+1) {
			t.Fatal(i, n)
		}
		if (i+1)%9999 == 0 && luby.Sum(i+1) != sum {
			t.Fatal(i)
		}
	}
	if len(luby.First(100000)) != 100000 || luby.Sum(100000) != sum {
		t.Error(luby.Sum(100000), sum)
	}
	for _, n := range []int{0, -1, 100001, math.MaxInt, math.MinInt} {
		if len(luby.First(n)) > 0 || luby.Sum(n) != 0 {
			t.Error(n)
		}
	}
}

func TestTwice(t *testing.T) {
	for k := range 15 {
		n := 1<<(k+1) - 1
		once := luby.First(n)
		if !slices.Equal(luby.First(2*n+1), append(slices.Concat(once, once), n+1)) {
			t.Error(k)
		}
	}
}

func TestNext(t *testing.T) {
	for _, x := range []struct{ conflicts, unit, want int }{
		{0, 100, 100}, {99, 100, 100}, {100, 100, 200}, {199, 100, 200}, {200, 100, 400}, {399, 100, 400}, {0, 1, 1}, {11, 1, 12}, {12, 1, 13},
		{0, api.MaxBudget, api.MaxBudget}, {api.MaxBudget, api.MaxBudget, 2 * api.MaxBudget}, {api.MaxBudget, 3, 0},
		{-1, 1, 0}, {api.MaxBudget + 1, 1, 0}, {1, 0, 0}, {1, -1, 0}, {1, api.MaxBudget + 1, 0}, {math.MaxInt, math.MaxInt, 0}, {math.MinInt, math.MinInt, 0},
	} {
		if x.conflicts == api.MaxBudget && x.want == 0 {
			for n := 1; x.want <= x.conflicts; n++ {
				x.want += x.unit * at(n)
			}
		}
		if got := luby.Next(x.conflicts, x.unit); got != x.want {
			t.Errorf("Next(%d, %d) = %d, not %d", x.conflicts, x.unit, got, x.want)
		}
	}
	sum, n, most := 0, 0, 0
	for conflicts := range 3000 {
		for sum <= conflicts {
			n++
			sum += 3 * luby.At(n)
			most = max(most, luby.At(n))
		}
		got := luby.Next(conflicts, 3)
		if got != sum || got <= conflicts || got > conflicts+3*most || got != 3*luby.Sum(n) {
			t.Fatal(conflicts, got, sum)
		}
	}
}

// TestNextFar: more numbers are summed up than Sum knows.
func TestNextFar(t *testing.T) {
	sum := 0
	for n := 1; sum <= api.MaxBudget; n++ {
		sum += luby.At(n)
	}
	if got := luby.Next(api.MaxBudget, 1); got != sum {
		t.Error(got, sum)
	}
}
