package tests

import (
	"fmt"
	"math/rand"
	"runtime"
	"sync"
	"testing"
	"time"

	"loop.example/g00004/impl"
)

// One answer under every schedule of the goroutines, none of which is left behind. These are asked with the race detector
// too, where it is to be had.

// schedulePlays are channels in which both ends have much to do.
func schedulePlays() []channelPlay {
	var all []channelPlay
	for i, p := range wildPairs() {
		r := rand.New(rand.NewSource(550 + int64(i)))
		steps := append(delivering(r, 10), flushStep())
		steps = append(append(steps, talking(r, 20)...), flushStep(), closeStep(clientEnd), closeStep(serverEnd), flushStep())
		all = append(all, channelPlay{p.what, p.client, p.server, steps})
		all = append(all, channelPlay{p.what + ", and a bad end", p.client, p.server, append(steps[:15:15], flipStep(serverEnd, 4, 1), forgeStep(clientEnd, 9), flushStep())})
	}
	return all
}

// channelPlay is a channel with its steps.
type channelPlay struct {
	what   string
	client impl.EndConfig
	server impl.EndConfig
	steps  []impl.Step
}

func (p channelPlay) run() impl.ChannelReport {
	return impl.RunChannel(p.client, p.server, p.steps)
}

// noisy keeps the processors busy with goroutines that come and go, so that others are held up at any place.
func noisy(stop <-chan struct{}, done *sync.WaitGroup) {
	for range 2 * runtime.NumCPU() {
		done.Go(func() {
			for {
				select {
				case <-stop:
					return
				default:
					runtime.Gosched()
				}
			}
		})
	}
}

// With any number of processors, and with noise beside them, each run answers the same. Not beside other tests, as all of
// them share the processors.
func TestChannelUnderEverySchedule(t *testing.T) {
	plays := schedulePlays()
	var wants []impl.ChannelReport
	for _, p := range plays {
		wants = append(wants, toldChannel(p.client, p.server, p.steps))
	}
	before := runtime.GOMAXPROCS(0)
	defer runtime.GOMAXPROCS(before)
	for _, count := range []int{1, 2, 3, before, 2 * before} {
		for _, isNoisy := range []bool{false, true} {
			runtime.GOMAXPROCS(count)
			stop, done := make(chan struct{}), &sync.WaitGroup{}
			if isNoisy {
				noisy(stop, done)
			}
			for i, p := range plays {
				if got := p.run(); !sameChannel(got, wants[i]) {
					t.Errorf("%s on %d processors, noise %v:\ngot  %s\nwant %s", p.what, count, isNoisy, channelInShort(got), channelInShort(wants[i]))
				}
			}
			close(stop)
			done.Wait()
		}
	}
}

// Many channels at once, all with the same configurations and steps: none of them writes into those, and each answers the same.
func TestChannelManyAtOnce(t *testing.T) {
	t.Parallel()
	for _, p := range schedulePlays() {
		want := toldChannel(p.client, p.server, p.steps)
		got := make([]impl.ChannelReport, 24)
		var done sync.WaitGroup
		for i := range got {
			done.Go(func() { got[i] = p.run() })
		}
		done.Wait()
		for i, one := range got {
			if !sameChannel(one, want) {
				t.Errorf("%s, run %d:\ngot  %s\nwant %s", p.what, i, channelInShort(one), channelInShort(want))
			}
		}
	}
}

// The same again and again.
func TestChannelManyTimes(t *testing.T) {
	t.Parallel()
	steps := []impl.Step{flushStep(), writeStep(clientEnd, "question"), writeStep(serverEnd, "answer"), updateStep(clientEnd, 1), flushStep(), closeStep(serverEnd), flushStep()}
	want := toldChannel(earlyClient(), shopServer(), steps)
	for range 150 {
		if got := impl.RunChannel(earlyClient(), shopServer(), steps); !sameChannel(got, want) {
			t.Fatalf("got  %s\nwant %s", channelInShort(got), channelInShort(want))
		}
	}
}

// countedDown waits a while for the goroutines to become so many again: one that has said that it is done may still be there.
func countedDown(most int) int {
	for range 200 {
		if runtime.NumGoroutine() <= most {
			break
		}
		time.Sleep(5 * time.Millisecond)
	}
	return runtime.NumGoroutine()
}

// Whatever the answer is, both goroutines have ended. Not beside other tests, as these have goroutines of their own.
func TestChannelLeavesNothingRunning(t *testing.T) {
	before := runtime.NumGoroutine()
	plays := append(schedulePlays(), channelPlay{"no steps", shopClient(), shopServer(), nil}, channelPlay{"a fault", shopClient(), shopClient(), nil},
		channelPlay{"a step with a fault", shopClient(), shopServer(), []impl.Step{{}}}, channelPlay{"failed", shopClient(), shopServer(), []impl.Step{forgeStep(serverEnd, 1), forgeStep(clientEnd, 1)}})
	for _, p := range plays {
		for range 5 {
			p.run()
		}
		if count := countedDown(before); count > before {
			t.Fatalf("%s: %d goroutines were there, and %d are", p.what, before, count)
		}
	}
}

// What comes to one end hangs on nothing that the other one does meanwhile: steps of different ends that no way joins may be
// exchanged.
func TestChannelStepsOfDifferentEnds(t *testing.T) {
	t.Parallel()
	ahead := openedBy()
	one, two := writeStep(clientEnd, "one"), writeStep(serverEnd, "two")
	for _, pair := range [][2]impl.Step{{one, two}, {updateStep(clientEnd, 1), two}, {closeStep(clientEnd), closeStep(serverEnd)}, {timeStep(clientEnd, 5), timeStep(serverEnd, 9)},
		{forgeStep(clientEnd, 9), two}, {dropStep(clientEnd, 3), dropStep(serverEnd, 3)}, {flipStep(clientEnd, 0, 1), one}} {
		first := checkHonest(t, "in order", shopClient(), shopServer(), append(ahead, pair[0], pair[1], flushStep())...)
		second := checkHonest(t, "exchanged", shopClient(), shopServer(), append(ahead, pair[1], pair[0], flushStep())...)
		first.Answers[1], first.Answers[2] = first.Answers[2], first.Answers[1]
		if !sameChannel(first, second) {
			t.Errorf("%s: exchanged they are not the same:\n%s\n%s", fmt.Sprint(pair), channelInShort(first), channelInShort(second))
		}
	}
}
