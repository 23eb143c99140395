package record_test

import (
	"math"
	"slices"
	"strconv"
	"strings"
	"testing"

	"holloway/api"
	"holloway/inner"
	"holloway/op"
	"holloway/record"
)

// end is why a recording ends.
type end string

// ends tells why the recording of some steps from a place on ends ahead of the next one; "", if it goes on.
func ends(s api.State, start, steps, most int) end {
	c, is := cell(s, s.Ip)
	switch {
	case steps == min(max(most, 0), 120):
		return "most"
	case steps > 0 && s.Ip == start:
		return "loop"
	case s.Status != api.Running:
		return "status"
	case is && c < 64 && !op.Plain(c):
		return "not plain"
	case faulty(s):
		return "fault"
	}
	if next := inner.Step(s).Ip; next < 0 || next > 2999 {
		return "away"
	}
	return ""
}

func cell(s api.State, a int) (int, bool) {
	if a < 0 || a >= len(s.Mem) {
		return 0, false
	}
	return s.Mem[a], true
}

// faulty tells whether the step of a call, or of a plain operation, is a fault: by what the stacks lack, and by what it works on.
func faulty(s api.State) bool {
	c, is := cell(s, s.Ip)
	_, has := cell(s, s.Ip+1)
	if !is || op.Arg(c) && !has {
		return true
	}
	takes, takesBack := op.Takes(c)
	gives, givesBack := op.Gives(c)
	if c >= 64 {
		givesBack = 1
	}
	stack, back := len(s.Stack)-takes, len(s.Back)-takesBack
	if stack < 0 || back < 0 || stack+gives > 48 || back+givesBack > 48 {
		return true
	}
	return takes > 0 && wrong(s, c, s.Stack[len(s.Stack)-1])
}

// wrong tells whether an operation can't work on what lies on top.
func wrong(s api.State, c, top int) bool {
	_, there := cell(s, top)
	switch c {
	case api.Div, api.Mod:
		return top == 0
	case api.Fetch, api.Store, api.AddTo:
		return !there
	case api.Execute:
		return !there || top < 64
	case api.Emit:
		return len(s.Out) == 2000
	case api.Dot:
		return len(s.Out)+len(strconv.Itoa(top)) > 1999
	}
	return false
}

// recorded tells the recording as it is asked to be, and why it ends.
func recorded(s api.State, most int) (api.Recording, end) {
	r := api.Recording{Start: s.Ip}
	for {
		if why := ends(s, r.Start, len(r.Steps), most); why != "" {
			r.End = s.Ip
			r.Loop = len(r.Steps) > 0 && r.End == r.Start
			return r, why
		}
		x := api.Seen{Ip: s.Ip, Cell: s.Mem[s.Ip]}
		if op.Arg(x.Cell) {
			x.Arg = s.Mem[s.Ip+1]
		}
		s = inner.Step(s)
		x.Next = s.Ip
		r.Steps = append(r.Steps, x)
	}
}

// drawer draws numbers, the same ones each time.
type drawer uint

func (d *drawer) below(n int) int {
	*d = *d*6364136223846793005 + 1442695040888963407
	return int(uint(*d)>>33) % n
}

// cell draws a cell that may turn something.
func (d *drawer) cell(size int) int {
	switch d.below(10) {
	case 0:
		return d.below(7) - 3
	case 1:
		return api.First + 2*d.below(api.Ops)
	case 2:
		return []int{-1, 2998, 2999, 3000, 3001, math.MinInt, math.MaxInt, 1 << 32}[d.below(8)]
	case 3:
		return size - 2 + d.below(4)
	}
	return d.place(size)
}

// place draws a place in the code, which lies at the end of the memory.
func (d *drawer) place(size int) int { return size - 1 - d.below(14) }

func (d *drawer) list(n, size int) []int {
	l := make([]int, n)
	for i := range l {
		l[i] = d.cell(size)
	}
	return l
}

// state draws a machine, most often one that goes on for some steps.
func (d *drawer) state() api.State {
	size := []int{180, 300, 300, api.MaxMem}[d.below(4)]
	s := inner.Boot(size, "a\x00b"[:d.below(4)])
	for a := size - 15; a < size; a++ {
		s.Mem[a] = d.code(size)
		if op.Arg(s.Mem[a]) && a+1 < size {
			a++
			s.Mem[a] = d.place(size)
			if d.below(9) == 0 {
				s.Mem[a] = d.cell(size)
			}
		}
	}
	s.Ip, s.Status = d.place(size), api.Running
	if d.below(40) == 0 {
		s.Ip, s.Status = d.cell(size), d.below(3)
	}
	s.Stack, s.Back = d.list([]int{d.below(49), 15, 30, 48}[d.below(4)], size), d.list([]int{d.below(49), 20, 35}[d.below(3)], size)
	if n := len(s.Back); n >= 3 && d.below(2) == 0 {
		s.Handler = 3 + d.below(n-2)
		s.Back[s.Handler-1] = d.below(48)
		s.Back[s.Handler-3] = d.place(size)
	}
	s.Out = strings.Repeat("x", []int{0, api.MaxOut - d.below(9)}[d.below(2)])
	return s
}

// code draws an operation, or a call; most often what lays cells, so that there are some for what takes them.
func (d *drawer) code(size int) int {
	switch d.below(12) {
	case 0:
		return d.cell(size)
	case 1:
		return api.First + 2*d.below(api.Ops)
	case 2:
		return d.place(size)
	case 3, 4:
		return []int{api.Lit, api.Key, api.Dup, api.Copy, api.AtBack, api.J}[d.below(6)]
	case 5, 6:
		return []int{api.Branch, api.Zero, api.Loop, api.PlusLoop, api.Exit, api.Branch}[d.below(6)]
	}
	return d.below(api.Ops)
}

// P1301, P1302: recordings of machines of all kinds, against the model.
func TestDrawnMachines(t *testing.T) {
	d := drawer(13)
	seen, long := map[end]int{}, 0
	for range 6_000 {
		s := d.state()
		most := []int{d.below(140) - 5, 120, d.below(5)}[d.below(3)]
		want, why := recorded(s, most)
		got := record.Loop(s, most)
		expect(t, "Loop", got, want)
		expectAfter(t, s, got)
		expectRising(t, got)
		seen[why]++
		if got.Loop && len(got.Steps) > 6 {
			long++
		}
		if t.Failed() {
			t.Fatalf("of at most %d, from %d on, with %d and %d cells, ended by %s", most, s.Ip, len(s.Stack), len(s.Back), why)
		}
	}
	for _, why := range []end{"most", "loop", "status", "not plain", "fault", "away"} {
		if seen[why] < 30 {
			t.Errorf("%s ended it %d times", why, seen[why])
		}
	}
	if long < 30 {
		t.Errorf("%d long loops were seen", long)
	}
}

// expectAfter holds it that a state behind a recording is the one to which its steps lead, one by one.
func expectAfter(t *testing.T, s api.State, r api.Recording) {
	t.Helper()
	after := record.After(s, r)
	for _, x := range r.Steps {
		expectIs(t, "Ip", s.Ip, x.Ip)
		s = inner.Step(s)
		expectIs(t, "Next", s.Ip, x.Next)
	}
	expectSame(t, "After", after, s)
	expectIs(t, "End", after.Ip, r.End)
}

// expectRising holds the cells of a recording against all that its steps look at.
func expectRising(t *testing.T, r api.Recording) {
	t.Helper()
	looked := map[int]bool{}
	for _, x := range r.Steps {
		looked[x.Ip] = true
		if op.Arg(x.Cell) {
			looked[x.Ip+1] = true
		}
	}
	var want []int
	for a := range api.MaxMem {
		if looked[a] {
			want = append(want, a)
		}
	}
	if got := record.Cells(r); !slices.Equal(got, want) {
		t.Errorf("Cells: %v, not %v", got, want)
	}
}
