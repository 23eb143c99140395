package hot_test

import (
	"sort"
	"testing"

	"holloway/hot"
)

// model says the promise once more, by a map that is sorted where one goes.
type model struct {
	hot    int
	counts map[int]int
}

func (m *model) pass(ip int) bool {
	if m.hot <= 0 {
		return false
	}
	if m.counts[ip] == 0 && len(m.counts) == hot.Places {
		delete(m.counts, m.rank()[0])
	}
	m.counts[ip]++
	if m.counts[ip] == m.hot {
		delete(m.counts, ip)
		return true
	}
	return false
}

// rank lists what is counted: who goes first is the first.
func (m *model) rank() []int {
	var ips []int
	for ip := range m.counts {
		ips = append(ips, ip)
	}
	sort.Slice(ips, func(i, j int) bool {
		a, b := m.counts[ips[i]], m.counts[ips[j]]
		return a < b || a == b && ips[i] < ips[j]
	})
	return ips
}

type draw uint64

func (d *draw) below(n int) int {
	*d = *d*6364136223846793005 + 1442695040888963407
	return int(uint64(*d)>>33) % n
}

func TestDrawnSessions(t *testing.T) {
	d := draw(12)
	for range 300 {
		want := d.below(12) - 1
		wide := 1 + d.below(2*hot.Places+20)
		h, m := hot.New(want), &model{want, map[int]int{}}
		for range 400 {
			ip := d.below(wide) - wide/3
			if d.below(9) == 0 {
				h.Forget(ip)
				delete(m.counts, ip)
			} else {
				expectIs(t, "Pass", h.Pass(ip), m.pass(ip))
			}
			other := d.below(wide) - wide/3
			expectIs(t, "Count", h.Count(other), m.counts[other])
			expectIs(t, "Len", h.Len(), len(m.counts))
		}
		for ip := -wide; ip <= wide; ip++ {
			expectIs(t, "Count at the end", h.Count(ip), m.counts[ip])
		}
		if t.Failed() {
			t.Fatalf("New(%d), ips of %d", want, wide)
		}
	}
}
