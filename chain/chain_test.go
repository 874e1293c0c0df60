package chain_test

import (
	"math"
	"slices"
	"testing"

	"wicketgate/action"
	"wicketgate/api"
	"wicketgate/chain"
	"wicketgate/vm"
)

func TestChainAndAboveWrittenOut(t *testing.T) { // P9.4
	p := family(t)
	chains := [][]int{nil, {1}, {2, 1}, {3, 2, 1}, {4, 2, 1}, {5, 4, 2, 1}, {6}}
	for id, want := range chains {
		if l, e := chain.Chain(p, id); !slices.Equal(l, want) || e != api.OK {
			t.Errorf("Chain(%d): %v, %d", id, l, e)
		}
		for old := -3; old < 30; old++ {
			if is, e := chain.Above(p, old, id); is != (old == 0 || slices.Contains(want, old)) || e != api.OK {
				t.Errorf("Above(%d, %d): %t, %d", old, id, is, e)
			}
		}
	}
	for _, old := range []int{math.MinInt, math.MaxInt, 1 << 32, 1<<32 + 1} {
		if is, e := chain.Above(p, old, 5); is || e != api.OK {
			t.Errorf("Above(%d, 5): %t, %d", old, is, e)
		}
	}
}

func TestWhatIsNotThere(t *testing.T) { // P9.4, P9.5
	for _, p := range []api.Pool{{}, family(t)} {
		for _, id := range []int{math.MinInt, -1 << 32, -25, -6, -1, 7, 8, 23, 24, 25, 26, 1 << 32, 1<<32 + 1, math.MaxInt} {
			if l, e := chain.Chain(p, id); len(l) != 0 || e != api.ErrNone {
				t.Errorf("Chain(%d): %v, %d", id, l, e)
			}
			for _, old := range []int{0, 1, id} {
				if is, e := chain.Above(p, old, id); is || e != api.ErrNone {
					t.Errorf("Above(%d, %d): %t, %d", old, id, is, e)
				}
			}
			if v, e := chain.Eval(p, id, api.Data{}); v != (api.Verdict{}) || e != api.ErrNone {
				t.Errorf("Eval(%d): %v, %d", id, v, e)
			}
			for _, nr := range []uint32{0, 5, 64} {
				for _, arch := range []uint32{api.ArchOne, api.ArchTwo, 0} {
					if is, e := chain.Fast(p, id, nr, arch); is || e != api.ErrNone {
						t.Errorf("Fast(%d, %d, %#x): %t, %d", id, nr, arch, is, e)
					}
				}
			}
		}
	}
}

func TestAllThatIsAskedOfThePool(t *testing.T) { // P9.4, P9.5
	p := family(t)
	for id := -2; id < 30; id++ {
		tell(p).asks(t, p, id)
	}
	// The bits are believed: they need not be honest.
	next := chance(5)
	for range 40 {
		for i := range p.Nodes {
			n := &p.Nodes[i]
			n.One, n.Two = uint64(next(1<<30))<<32|uint64(next(1<<30))|uint64(next(2))<<63, uint64(next(1<<30))<<34|uint64(next(1<<30))<<3
		}
		for id := range 7 {
			for nr := range uint32(70) {
				for _, arch := range []uint32{api.ArchOne, api.ArchTwo, api.ArchOne + 1} {
					want, _ := tell(p).fast(id, nr, arch)
					if is, e := chain.Fast(p, id, nr, arch); is != want || e != api.OK {
						t.Fatalf("Fast(%d, %d, %#x) of %+v: %t, %d", id, nr, arch, p, is, e)
					}
				}
			}
		}
	}
}

func TestFastAtTheEdges(t *testing.T) { // P9.5
	p, _ := must(t, api.Pool{}, 0, says(allowWord))
	for id := range 2 {
		for _, nr := range []uint32{0, 1, 5, 31, 32, 62, 63, 64, 65, 127, 128, 1 << 16, 1 << 31, 1<<31 + 5, math.MaxUint32} {
			for _, arch := range []uint32{api.ArchOne, api.ArchTwo, 0, 1, 0x3e, 3, api.ArchOne - 1, api.ArchOne + 1, api.ArchTwo - 1, api.ArchTwo + 1, api.ArchOne &^ (1 << 31), api.ArchTwo | 1<<31, math.MaxUint32} {
				want := nr < 64 && (arch == 0xc000003e || arch == 0x40000003)
				if is, e := chain.Fast(p, id, nr, arch); is != want || e != api.OK {
					t.Errorf("Fast(%d, %d, %#x): %t, %d", id, nr, arch, is, e)
				}
			}
		}
	}
}

func TestFastAsksTheWholeChain(t *testing.T) { // P9.5
	// The filter at one place of a chain of five refuses 7; of others nothing is refused.
	for at := range 5 {
		var p api.Pool
		id := 0
		for i := range 5 {
			program := says(allowWord)
			if i == at {
				program = unless(7, errnoWord)
			}
			p, id = must(t, p, id, program)
		}
		for id := range 6 {
			for nr := range uint32(64) {
				want := nr != 7 || id <= at
				if is, e := chain.Fast(p, id, nr, api.ArchOne); is != want || e != api.OK {
					t.Errorf("Fast(%d, %d), where %d refuses: %t, %d", id, nr, at+1, is, e)
				}
			}
		}
	}
}

func TestEvalWrittenOut(t *testing.T) { // P9.5
	for _, q := range []struct {
		words []uint32 // the oldest filter's first
		want  api.Verdict
	}{
		{nil, api.Verdict{Action: api.Allow}},
		{[]uint32{0x7fff0009}, api.Verdict{Action: api.Allow, Data: 9}},
		{[]uint32{0x7fff0009, 0x7fff0008}, api.Verdict{Action: api.Allow, Data: 8}},
		{[]uint32{0x00050001, 0x00050002}, api.Verdict{Action: api.Refuse, Data: 2}},
		{[]uint32{0x00050002, 0x00050001, 0x7fff0000}, api.Verdict{Action: api.Refuse, Data: 1}},
		{[]uint32{0x00030004, 0x00050001, 0x7fc00000}, api.Verdict{Action: api.Trap, Data: 4}},
		{[]uint32{0x7ff00004, 0x7fc00001, 0x7fff0000}, api.Verdict{Action: api.Notify, Data: 1}},
		{[]uint32{0x7ffc0003, 0x7ff00002, 0x7ffc0001}, api.Verdict{Action: api.Trace, Data: 2}},
		{[]uint32{0x80000001, 0x00000002, 0x00030003}, api.Verdict{Action: api.KillProcess, Data: 1}},
		{[]uint32{0x80000001, 0x00010002, 0x00000003}, api.Verdict{Action: api.KillProcess, Data: 2}},
		{[]uint32{0x00000001, 0x00000002, 0x00050003}, api.Verdict{Action: api.KillThread, Data: 2}},
	} {
		var p api.Pool
		id := 0
		for _, word := range q.words {
			p, id = must(t, p, id, says(word))
		}
		if v, e := chain.Eval(p, id, api.Data{Nr: 3}); v != q.want || e != api.OK {
			t.Errorf("%08x: %v, %d", q.words, v, e)
		}
	}
	// Each part of the data counts.
	p := api.Pool{}
	for offset := uint32(0); offset < 64; offset += 4 {
		p, _ = must(t, p, 0, []api.Insn{in("ld.abs", offset), in("ret.a", 0)})
	}
	d := api.Data{Nr: 0x00050001, Arch: 0x00050002, Ip: 0x00050004_00050003, Args: [6]uint64{0x00050006_00050005, 0x00050008_00050007, 0x0005000a_00050009, 0x0005000c_0005000b, 0x0005000e_0005000d, 0x00050010_0005000f}}
	for id := 1; id <= 16; id++ {
		if v, e := chain.Eval(p, id, d); v != (api.Verdict{Action: api.Refuse, Data: uint16(id)}) || e != api.OK {
			t.Errorf("the word %d: %v, %d", id, v, e)
		}
	}
}

func TestWhatFastAllowsEvalAllows(t *testing.T) { // P9.6
	all := programs()[:12]
	fast := 0
	for seed := range uint64(30) {
		next := chance(seed)
		var p api.Pool
		id := 0
		for range 12 {
			q, new, e := chain.Add(p, id, all[next(len(all))])
			if e != api.OK {
				break
			}
			p, id = q, new
		}
		for id := range len(p.Nodes) + 1 {
			for range 20 {
				d := api.Data{Nr: uint32(next(66)), Arch: []uint32{api.ArchOne, api.ArchTwo, 0}[next(3)], Ip: uint64(next(9)), Args: [6]uint64{uint64(next(8)), uint64(next(8))}}
				is, _ := chain.Fast(p, id, d.Nr, d.Arch)
				v, e := chain.Eval(p, id, d)
				if e != api.OK || is && v != (api.Verdict{Action: api.Allow}) {
					t.Fatalf("Fast(%d) of %+v allows %+v, Eval says %v, %d", id, p, d, v, e)
				}
				if is {
					fast++
				}
				// A longer chain is no less restrictive, nor than any filter of it.
				if id > 0 {
					ahead, _ := chain.Eval(p, p.Nodes[id-1].Parent, d)
					word, _ := vm.Run(p.Nodes[id-1].Program, d)
					if v.Action > ahead.Action || v.Action > action.Split(word).Action {
						t.Fatalf("Eval(%d) of %+v: %v, of its Parent %v, of it alone %08x", id, p, v, ahead, word)
					}
				}
			}
		}
	}
	if fast < 100 {
		t.Error(fast)
	}
}

func TestExamples(t *testing.T) { // the chapter's
	p, one, e := chain.Add(api.Pool{}, 0, says(0x7fff0000))
	p, two, f := chain.Add(p, 1, says(0))
	if one != 1 || two != 2 || e != api.OK || f != api.OK {
		t.Fatal(one, two, e, f)
	}
	if l, e := chain.Chain(p, 2); !slices.Equal(l, []int{2, 1}) || e != api.OK {
		t.Error(l, e)
	}
	if v, e := chain.Eval(p, 2, api.Data{}); v != (api.Verdict{Action: api.KillThread}) || e != api.OK {
		t.Error(v, e)
	}
	if v, e := chain.Eval(p, 1, api.Data{}); v != (api.Verdict{Action: api.Allow}) || e != api.OK {
		t.Error(v, e)
	}
	p, e = chain.Take(p, 1)
	if n, there := chain.Find(p, 1); n.Count != 2 || !there || e != api.OK {
		t.Error(n, there, e)
	}
	p, gone, e := chain.Give(p, 2)
	if !slices.Equal(gone, []int{2}) || e != api.OK {
		t.Error(gone, e)
	}
	if l, e := chain.Chain(p, 1); !slices.Equal(l, []int{1}) || e != api.OK {
		t.Error(l, e)
	}
	p, gone, e = chain.Give(p, 1)
	if !slices.Equal(gone, []int{1}) || len(p.Nodes) != 0 || e != api.OK {
		t.Error(gone, p, e)
	}
	if _, id, e := chain.Add(api.Pool{}, 5, says(0x7fff0000)); id != 0 || e != api.ErrNone {
		t.Error(id, e)
	}
	if _, id, e := chain.Add(api.Pool{}, 0, nil); id != 0 || e != api.ErrSize {
		t.Error(id, e)
	}
	if _, gone, e := chain.Give(api.Pool{}, 1); len(gone) != 0 || e != api.ErrNone {
		t.Error(gone, e)
	}
}
