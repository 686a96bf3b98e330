package tests

import (
	"fmt"
	"slices"
	"testing"

	"loop.example/g00004/impl"
)

// The faults of RunChannel, each alone and all of them together; all else is zero then.

func checkChannelFault(t *testing.T, what string, client impl.EndConfig, server impl.EndConfig, steps []impl.Step, want int64) {
	t.Helper()
	got := impl.RunChannel(client, server, steps)
	if got.Fault != want || toldChannelFault(client, server, steps) != want {
		t.Errorf("%s: got %d, want %d, told %d", what, got.Fault, want, toldChannelFault(client, server, steps))
	}
	if want != 0 && !sameChannel(got, impl.ChannelReport{Fault: want}) {
		t.Errorf("%s: not all else is zero: %s", what, channelInShort(got))
	}
	if want == 0 && len(got.Answers) != len(steps) {
		t.Errorf("%s: %d answers to %d steps", what, len(got.Answers), len(steps))
	}
}

// ruleOf is the rule of a channel that a fault of a configuration breaks.
func ruleOf(fault int64, rule int64) int64 {
	if fault == 0 {
		return 0
	}
	return rule
}

func TestChannelFaultOfConfigs(t *testing.T) {
	t.Parallel()
	for _, one := range configChanges(t) {
		client, server := shopClient(), shopServer()
		one.change(&client)
		one.change(&server)
		checkChannelFault(t, one.what+" of the client", client, shopServer(), nil, ruleOf(one.client, 1))
		checkChannelFault(t, one.what+" of the server", shopClient(), server, nil, ruleOf(one.server, 2))
		if one.client != 0 {
			checkChannelFault(t, one.what+" of both", client, server, nil, 1)
		}
	}
}

// What is only for the other role plays no part, but who is a server must be the server.
func TestChannelFaultOfRoles(t *testing.T) {
	t.Parallel()
	client, server := shopClient(), shopServer()
	checkChannelFault(t, "in their places", client, server, nil, 0)
	checkChannelFault(t, "two servers", server, server, nil, 1)
	checkChannelFault(t, "two clients", client, client, nil, 2)
	checkChannelFault(t, "exchanged", server, client, nil, 1)
	checkChannelFault(t, "nobody", impl.EndConfig{}, impl.EndConfig{}, nil, 1)
	checkChannelFault(t, "no server", client, impl.EndConfig{}, nil, 2)
	checkChannelFault(t, "no client", impl.EndConfig{}, server, nil, 1)
	// With all that both roles need the flag alone decides.
	both := server
	both.Host, both.Roots = client.Host, client.Roots
	other := both
	other.Server = false
	checkChannelFault(t, "a client with a server's things", other, both, nil, 0)
	checkChannelFault(t, "the flag of the client", both, both, nil, 1)
	checkChannelFault(t, "the flag of the server", other, other, nil, 2)
}

func TestChannelFaultOfCounts(t *testing.T) {
	t.Parallel()
	for _, s := range []impl.Step{timeStep(clientEnd, 1), dropStep(serverEnd, 0), flipStep(clientEnd, 0, 1), writeStep(serverEnd, "x"), flushStep()} {
		for count, want := range map[int]int64{0: 0, 1: 0, 199: 0, 200: 0, 201: 3, 202: 3, 256: 3, 400: 3, 1000: 3} {
			checkChannelFault(t, fmt.Sprint(count, " steps"), shopClient(), shopServer(), slices.Repeat([]impl.Step{s}, count), want)
		}
	}
	checkChannelFault(t, "steps with faults, too many", shopClient(), shopServer(), make([]impl.Step, 201), 3)
	checkChannelFault(t, "steps with faults", shopClient(), shopServer(), make([]impl.Step, 200), 4)
}

// A step with a fault counts wherever it stands, also where the ends would have failed long ago.
func TestChannelFaultOfSteps(t *testing.T) {
	t.Parallel()
	wrong := []impl.Step{{}, {Kind: 11}, {Kind: -1}, {Kind: impl.StFlush, End: 1}, {Kind: impl.StWrite, End: 2}, {Kind: impl.StUpdate, Number: 2},
		{Kind: impl.StTime, Number: lastTime + 1}, {Kind: impl.StDeliver, Count: 65537}, {Kind: impl.StDrop, Count: -1}, {Kind: impl.StFlip},
		{Kind: impl.StFlip, Number: 65537, Data: []byte{1}}, {Kind: impl.StAgain, Number: -1}, {Kind: impl.StClose, Data: []byte{0}}}
	for _, size := range []int{1, 2, 7, 200} {
		for _, at := range []int{0, size / 2, size - 1} {
			for _, s := range wrong {
				steps := slices.Repeat([]impl.Step{forgeStep(serverEnd, 9)}, size)
				steps[at] = s
				checkChannelFault(t, fmt.Sprint("the step ", at, " of ", size), shopClient(), shopServer(), steps, 4)
			}
		}
	}
}

// All data of all steps count, whoever gets them, and also those that will be refused.
func TestChannelFaultOfData(t *testing.T) {
	t.Parallel()
	whole := make([]byte, 400000)
	for _, kinds := range [][]int64{{impl.StWrite}, {impl.StForge}, {impl.StForge, impl.StWrite}, {impl.StWrite, impl.StForge, impl.StWrite}} {
		for _, toBoth := range []bool{false, true} {
			for size, want := range map[int]int64{199999: 0, 200000: 0, 200001: 5, 200002: 5, 262144: 5, 400000: 5} {
				var steps []impl.Step
				part := size / len(kinds)
				for i, kind := range kinds {
					data := whole[:part]
					if i == 0 {
						data = whole[:size-part*(len(kinds)-1)]
					}
					end := int64(serverEnd)
					if toBoth {
						end = int64(i % 2)
					}
					steps = append(steps, impl.Step{Kind: kind, End: end, Data: data})
				}
				checkChannelFault(t, fmt.Sprint(size, " bytes"), shopClient(), shopServer(), steps, want)
			}
		}
	}
	// The byte of a flip counts too.
	for size, want := range map[int]int64{199999: 0, 200000: 5} {
		checkChannelFault(t, "with a flip", shopClient(), shopServer(), []impl.Step{writeStep(clientEnd, string(whole[:size])), flipStep(serverEnd, 60000, 1)}, want)
	}
	many := slices.Repeat([]impl.Step{{Kind: impl.StForge, End: serverEnd, Data: whole[:1000]}}, 200)
	checkChannelFault(t, "many steps", shopClient(), shopServer(), many, 0)
	many[77].Data = whole[:1001]
	checkChannelFault(t, "many steps, and a byte", shopClient(), shopServer(), many, 5)
}

// Of several faults the one named first is told.
func TestChannelFaultOfSeveral(t *testing.T) {
	t.Parallel()
	for broken := range 32 {
		isBroken := func(rule int) bool { return broken>>(rule-1)&1 == 1 }
		client, server := shopClient(), shopServer()
		steps := []impl.Step{flushStep()}
		if isBroken(1) {
			client.Seed = nil
		}
		if isBroken(2) {
			server.Life = -1
		}
		if isBroken(5) {
			steps = append(steps, impl.Step{Kind: impl.StForge, Data: make([]byte, 200001)})
		}
		if isBroken(4) {
			steps = append(steps, impl.Step{Kind: impl.StFlip, Number: 1})
		}
		if isBroken(3) {
			steps = append(steps, slices.Repeat([]impl.Step{timeStep(serverEnd, 1)}, 200)...)
		}
		want := int64(0)
		for rule := 5; rule > 0; rule-- {
			if isBroken(rule) {
				want = int64(rule)
			}
		}
		checkChannelFault(t, fmt.Sprintf("broken %05b", broken), client, server, steps, want)
	}
}
