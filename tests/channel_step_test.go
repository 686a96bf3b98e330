package tests

import (
	"slices"
	"testing"

	"loop.example/g00004/impl"
)

// Steps: each kind with each of its faults, alone and together.

func TestChannelConstants(t *testing.T) {
	got := append(allStepKinds(), impl.MaxSteps, impl.MaxSpan, impl.FlushRounds, impl.AgreeNot, impl.AgreeHalf, impl.AgreeBoth, impl.AgreeEnded, impl.AgreeNever)
	want := []int64{1, 2, 3, 4, 5, 6, 7, 8, 9, 10, 200, 65536, 8, 0, 1, 2, 3, 4}
	if !slices.Equal(got, want) {
		t.Errorf("got %v, want %v", got, want)
	}
}

func checkStep(t *testing.T, s impl.Step, want int64) {
	t.Helper()
	if got := impl.StepFault(s); got != want || toldStepFault(s) != want {
		t.Errorf("kind %d, end %d, number %d, count %d, %d bytes: got %d, want %d, told %d", s.Kind, s.End, s.Number, s.Count, len(s.Data), got, want, toldStepFault(s))
	}
}

// leastStep is without a fault, with the least of all that its kind may have.
func leastStep(kind int64) impl.Step {
	s := impl.Step{Kind: kind}
	if kind == impl.StFlip {
		s.Data = []byte{0}
	}
	return s
}

// mostNumber and mostCount are what the table of the chapter has for a kind.
func mostNumber(kind int64) int64 {
	return map[int64]int64{impl.StUpdate: 1, impl.StTime: lastTime, impl.StFlip: 65536, impl.StAgain: 65536}[kind]
}

func mostCount(kind int64) int64 {
	return map[int64]int64{impl.StDeliver: 65536, impl.StDrop: 65536, impl.StAgain: 65536}[kind]
}

// withinOf are numbers within the limits, both of which are among them.
func withinOf(least int64, most int64) []int64 {
	return slices.DeleteFunc(insideOfLimits(least, most), func(v int64) bool { return !toldBetween(v, least, most) })
}

func TestStepKinds(t *testing.T) {
	t.Parallel()
	for _, kind := range allStepKinds() {
		checkStep(t, leastStep(kind), 0)
	}
	for _, kind := range append(outsideOf(1, 10), 0, 11, 17, 1<<32+5) {
		for _, s := range []impl.Step{{}, {Data: []byte{1}}, {End: 1}, {End: 9, Number: -1, Count: -1, Data: []byte{1, 2}}} {
			s.Kind = kind
			checkStep(t, s, 1)
		}
	}
}

func TestStepEnds(t *testing.T) {
	t.Parallel()
	for _, kind := range allStepKinds() {
		s := leastStep(kind)
		for _, end := range append(outsideOf(0, 1), 2, 3, -1) {
			s.End = end
			checkStep(t, s, 2)
		}
		s.End = 1
		want := int64(0)
		if kind == impl.StFlush {
			want = 2
		}
		checkStep(t, s, want)
	}
}

func TestStepNumbers(t *testing.T) {
	t.Parallel()
	for _, kind := range allStepKinds() {
		most := mostNumber(kind)
		for _, number := range append(outsideOf(0, most), most+1, -1) {
			s := leastStep(kind)
			s.Number = number
			checkStep(t, s, 3)
		}
		for _, number := range withinOf(0, most) {
			s := leastStep(kind)
			s.Number = number
			checkStep(t, s, 0)
		}
	}
}

func TestStepCounts(t *testing.T) {
	t.Parallel()
	for _, kind := range allStepKinds() {
		most := mostCount(kind)
		for _, count := range append(outsideOf(0, most), most+1, -1) {
			s := leastStep(kind)
			s.Count = count
			checkStep(t, s, 4)
		}
		for _, count := range withinOf(0, most) {
			s := leastStep(kind)
			s.Count = count
			checkStep(t, s, 0)
		}
	}
}

// An empty list is no data; where any may be, there is no most: how much all steps have together is asked elsewhere.
func TestStepData(t *testing.T) {
	t.Parallel()
	for _, kind := range allStepKinds() {
		for _, size := range []int{0, 1, 2, 3, 255, 256, 257, 65536, 65537, 200000, 200001} {
			want := int64(5)
			switch {
			case kind == impl.StWrite, kind == impl.StForge, kind == impl.StFlip && size == 1, kind != impl.StFlip && size == 0:
				want = 0
			}
			checkStep(t, impl.Step{Kind: kind, Data: make([]byte, size)}, want)
		}
		s := impl.Step{Kind: kind}
		checkStep(t, s, toldStepFault(impl.Step{Kind: kind, Data: []byte{}}))
	}
}

// Of several faults the one named first is told, whatever the others are.
func TestStepFaultOfSeveral(t *testing.T) {
	t.Parallel()
	for _, kind := range allStepKinds() {
		breaks := []func(s *impl.Step){
			func(s *impl.Step) { s.Kind = -kind },
			func(s *impl.Step) { s.End = 2 },
			func(s *impl.Step) { s.Number = mostNumber(kind) + 1 },
			func(s *impl.Step) { s.Count = mostCount(kind) + 1 },
			func(s *impl.Step) { s.Data = []byte{1, 2} },
		}
		// Where any data may be, none are wrong.
		if kind == impl.StWrite || kind == impl.StForge {
			breaks = breaks[:4]
		}
		for broken := range 1 << len(breaks) {
			s, want := leastStep(kind), int64(0)
			for i, change := range breaks {
				if broken>>i&1 == 0 {
					continue
				}
				change(&s)
				if want == 0 {
					want = int64(i + 1)
				}
			}
			checkStep(t, s, want)
		}
	}
}
