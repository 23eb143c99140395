package hot_test

import (
	"math"
	"testing"

	"holloway/hot"
)

func expectIs[T comparable](t *testing.T, what string, got, want T) {
	t.Helper()
	if got != want {
		t.Errorf("%s: %v, not %v", what, got, want)
	}
}

// pass passes ip so many times and tells how often that was hot.
func pass(h *hot.Hot, ip, times int) int {
	n := 0
	for range times {
		if h.Pass(ip) {
			n++
		}
	}
	return n
}

// full is one in which all places are taken, by the ips from first on, each passed so many times.
func full(t *testing.T, first, times int) *hot.Hot {
	t.Helper()
	h := hot.New(100)
	for k := range hot.Places {
		expectIs(t, "hot", pass(h, first+k, times), 0)
	}
	expectIs(t, "full Len", h.Len(), hot.Places)
	return h
}

func TestP1201Example(t *testing.T) {
	h := hot.New(2)
	expectIs(t, "first", h.Pass(7), false)
	expectIs(t, "one counted", h.Count(7), 1)
	expectIs(t, "second", h.Pass(7), true)
	expectIs(t, "forgotten", h.Count(7), 0)
	expectIs(t, "none left", h.Len(), 0)
}

func TestP1201HotAgain(t *testing.T) {
	for want := 1; want <= 6; want++ {
		h := hot.New(want)
		for k := 1; k <= 5*want; k++ {
			expectIs(t, "Pass", h.Pass(9), k%want == 0)
			expectIs(t, "Count", h.Count(9), k%want)
			expectIs(t, "Len", h.Len(), min(k%want, 1))
		}
	}
}

func TestP1201OneIsHotAtOnce(t *testing.T) {
	h := hot.New(1)
	for k := range 3 * hot.Places {
		expectIs(t, "Pass", h.Pass(k-hot.Places), true)
		expectIs(t, "Count", h.Count(k-hot.Places), 0)
		expectIs(t, "Len", h.Len(), 0)
	}
}

func TestP1201NeverHot(t *testing.T) {
	for _, never := range []int{0, -1, -2, math.MinInt} {
		h := hot.New(never)
		expectIs(t, "passes", pass(h, 7, 200)+pass(h, 0, 5)+pass(h, -1, 5), 0)
		h.Forget(7)
		expectIs(t, "Count", h.Count(7)+h.Count(0)+h.Count(-1), 0)
		expectIs(t, "Len", h.Len(), 0)
	}
}

func TestP1201GreatHot(t *testing.T) {
	h := hot.New(math.MaxInt)
	expectIs(t, "passes", pass(h, 7, 5000), 0)
	expectIs(t, "Count", h.Count(7), 5000)
	expectIs(t, "Len", h.Len(), 1)
}

func TestP1201EachIpOfItsOwn(t *testing.T) {
	h := hot.New(4)
	ips := []int{0, -1, 1, math.MinInt, math.MaxInt}
	for k, ip := range ips {
		pass(h, ip, 1+k%3)
	}
	for k, ip := range ips {
		expectIs(t, "Count", h.Count(ip), 1+k%3)
	}
	expectIs(t, "Len", h.Len(), len(ips))
	expectIs(t, "not passed", h.Count(2), 0)
	expectIs(t, "hot", pass(h, 1, 1), 1)
	expectIs(t, "the others stay", h.Len(), len(ips)-1)
	for k, ip := range ips {
		if ip != 1 {
			expectIs(t, "Count", h.Count(ip), 1+k%3)
		}
	}
}

func TestP1201Forget(t *testing.T) {
	h := hot.New(5)
	h.Forget(3)
	expectIs(t, "of none", h.Len(), 0)
	pass(h, 1, 1)
	pass(h, 2, 2)
	pass(h, 3, 3)
	h.Forget(4)
	expectIs(t, "an unknown one", h.Len(), 3)
	h.Forget(1)
	h.Forget(1)
	expectIs(t, "one less", h.Len(), 2)
	expectIs(t, "Count 1", h.Count(1), 0)
	expectIs(t, "Count 2", h.Count(2), 2)
	expectIs(t, "Count 3", h.Count(3), 3)
	expectIs(t, "from 0 on", pass(h, 1, 4), 0)
	expectIs(t, "hot again", pass(h, 1, 1), 1)
	h.Forget(3)
	h.Forget(2)
	expectIs(t, "all", h.Len(), 0)
}

func TestP1201AskingChangesNothing(t *testing.T) {
	h := full(t, 0, 1)
	for k := range 200 {
		expectIs(t, "Count", h.Count(k-50), map[bool]int{true: 1}[k >= 50 && k < 50+hot.Places])
		expectIs(t, "Len", h.Len(), hot.Places)
	}
}

func TestP1201LeastCountGoesFirst(t *testing.T) {
	for least := range hot.Places {
		h := full(t, 10, 2)
		for k := range hot.Places {
			if k != least {
				h.Pass(10 + k)
			}
		}
		expectIs(t, "a new one", h.Pass(1000), false)
		expectIs(t, "its count", h.Count(1000), 1)
		expectIs(t, "Len", h.Len(), hot.Places)
		for k := range hot.Places {
			want := 3
			if k == least {
				want = 0
			}
			expectIs(t, "Count", h.Count(10+k), want)
		}
	}
}

func TestP1201LeastIpOfLikeCounts(t *testing.T) {
	// The ips come in falling order, so that the least is the last that came.
	h := hot.New(9)
	for k := range hot.Places {
		h.Pass(-k)
	}
	for k := range hot.Places {
		gone := k - hot.Places + 1
		expectIs(t, "there still", h.Count(gone), 1)
		h.Pass(100 + k)
		expectIs(t, "gone", h.Count(gone), 0)
		expectIs(t, "Len", h.Len(), hot.Places)
	}
	h.Pass(0)
	expectIs(t, "the least of the new ones", h.Count(100), 0)
	expectIs(t, "the next stays", h.Count(101), 1)
}

func TestP1201CountBeforeIp(t *testing.T) {
	h := full(t, 0, 3)
	h.Forget(31)
	pass(h, 31, 2)
	h.Forget(17)
	pass(h, 17, 2)
	h.Pass(-1)
	expectIs(t, "the less ip of the less count", h.Count(17), 0)
	expectIs(t, "the greater ip", h.Count(31), 2)
	expectIs(t, "a greater count", h.Count(0), 3)
	h.Pass(-2)
	expectIs(t, "the last new one has the least count", h.Count(-1), 0)
	expectIs(t, "the greater ip", h.Count(31), 2)
}

func TestP1201KnownOnesDriveNobodyOut(t *testing.T) {
	h := full(t, 0, 1)
	for k := range hot.Places {
		h.Pass(k)
		expectIs(t, "Count", h.Count(k), 2)
		expectIs(t, "Len", h.Len(), hot.Places)
	}
}

func TestP1201ForgottenPlaceIsFree(t *testing.T) {
	h := full(t, 0, 1)
	h.Forget(5)
	h.Pass(500)
	expectIs(t, "the least stays", h.Count(0), 1)
	expectIs(t, "Len", h.Len(), hot.Places)
	expectIs(t, "hot", pass(h, 500, 99), 1)
	expectIs(t, "one place is free", h.Len(), hot.Places-1)
	h.Pass(501)
	expectIs(t, "the least stays", h.Count(0), 1)
	h.Pass(502)
	expectIs(t, "the least goes", h.Count(0), 0)
}

func TestP1201DrivenOutIsCountedAnew(t *testing.T) {
	h := hot.New(3)
	for k := range hot.Places {
		pass(h, k, 2)
	}
	h.Pass(100)
	expectIs(t, "0 went", h.Count(0), 0)
	expectIs(t, "0 is new, and 100 goes for it", h.Pass(0), false)
	expectIs(t, "Count", h.Count(0), 1)
	expectIs(t, "100 went", h.Count(100), 0)
	expectIs(t, "hot", h.Pass(1), true)
}

func TestP1201NilAndZero(t *testing.T) {
	var none *hot.Hot
	for _, h := range []*hot.Hot{none, new(hot.Hot)} {
		expectIs(t, "passes", pass(h, 7, 100), 0)
		h.Forget(7)
		expectIs(t, "Count", h.Count(7), 0)
		expectIs(t, "Len", h.Len(), 0)
	}
}

func TestP1201EachOfItsOwn(t *testing.T) {
	a, b := hot.New(3), hot.New(3)
	pass(a, 1, 2)
	expectIs(t, "b knows nothing", b.Count(1), 0)
	expectIs(t, "b isn't hot", b.Pass(1), false)
	expectIs(t, "a is", a.Pass(1), true)
}

func TestPlaces(t *testing.T) { expectIs(t, "Places", hot.Places, 32) }
