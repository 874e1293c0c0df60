package chain_test

import (
	"math"
	"slices"
	"testing"

	"wicketgate/api"
	"wicketgate/chain"
)

// adds adds to p and to w, holds both against each other, and answers the pool behind it.
func (w told) adds(t *testing.T, p api.Pool, parent int, program []api.Insn) api.Pool {
	t.Helper()
	want, wantError := w.add(parent, program)
	q, id, e := chain.Add(p, parent, program)
	if id != want || e != wantError || e != api.OK && len(q.Nodes) != 0 {
		t.Fatalf("Add(%d, %+v) to %+v: %d, %d, not %d, %d", parent, program, p, id, e, want, wantError)
	}
	return w.behind(t, p, q, e)
}

func (w told) takes(t *testing.T, p api.Pool, id int) api.Pool {
	t.Helper()
	wantError := w.take(id)
	q, e := chain.Take(p, id)
	if e != wantError || e != api.OK && len(q.Nodes) != 0 {
		t.Fatalf("Take(%d) of %+v: %+v, %d, not %d", id, p, q, e, wantError)
	}
	return w.behind(t, p, q, e)
}

func (w told) gives(t *testing.T, p api.Pool, id int) api.Pool {
	t.Helper()
	want, wantError := w.give(id)
	q, gone, e := chain.Give(p, id)
	if !slices.Equal(gone, want) || e != wantError || e != api.OK && len(q.Nodes) != 0 {
		t.Fatalf("Give(%d) of %+v: %v, %d, not %v, %d", id, p, gone, e, want, wantError)
	}
	return w.behind(t, p, q, e)
}

// behind answers the pool that there is behind a call that answered q and e of p: it is the one that w tells.
func (w told) behind(t *testing.T, p, q api.Pool, e api.Errno) api.Pool {
	t.Helper()
	if e != api.OK {
		q = p
	}
	if want := w.pool(); !alike(q, want) {
		t.Fatalf("of %+v came %+v, not %+v", p, q, want)
	}
	return q
}

func TestAllShortRowsOfCalls(t *testing.T) { // P9.2, P9.3, P9.4
	calls := []func(w told, p api.Pool, id int) api.Pool{
		func(w told, p api.Pool, id int) api.Pool { return w.adds(t, p, id, says(errnoWord)) },
		func(w told, p api.Pool, id int) api.Pool { return w.takes(t, p, id) },
		func(w told, p api.Pool, id int) api.Pool { return w.gives(t, p, id) },
	}
	pools, not := 0, 0
	var further func(p api.Pool, depth int)
	further = func(p api.Pool, depth int) {
		pools++
		// Where the Parent had no reference left for the new one, there is no pool any more.
		if !checked(t, p) {
			not++
			refused(t, p, 1)
			return
		}
		for id := range 6 {
			want, wantError := tell(p).chain(id)
			if l, e := chain.Chain(p, id); !slices.Equal(l, want) || e != wantError {
				t.Fatalf("Chain(%d) of %+v: %v, %d", id, p, l, e)
			}
		}
		for id := range 5 {
			for _, call := range calls {
				// What was refused leads no further than p itself.
				if q := call(tell(p), p, id); depth > 0 && !alike(p, q) {
					further(q, depth-1)
				}
			}
		}
	}
	further(api.Pool{}, 6)
	if pools < 5000 || not < 200 {
		t.Error(pools, not)
	}
}

// programs answers programs that say this and that, and some that may not be.
func programs() [][]api.Insn {
	return [][]api.Insn{
		says(allowWord), says(errnoWord + 9), says(0x7ffc0001), unless(5, errnoWord+1), unless(63, 0x80000002), byArg(errnoWord + 3), byArg(0), byArch(api.ArchOne, 0x00030004), byArch(api.ArchTwo, errnoWord),
		long(20, allowWord), long(64, errnoWord+7), long(40, 0x00010001), nil, long(65, 0), {in("ld.imm", 1)},
	}
}

func TestMixedCalls(t *testing.T) { // P9.1 to P9.6
	all := programs()
	met := map[api.Errno]int{}
	most, gones := 0, 0
	for seed := range uint64(30) {
		next := chance(seed)
		var p api.Pool
		w := told{}
		for step := range 100 {
			id := next(len(w) + 2)
			switch next(6) {
			case 0, 1, 2:
				// Ahead of an add the caller has a reference of the Parent.
				if _, there := w[id]; there {
					p = w.takes(t, p, id)
				}
				before := len(w)
				program := all[next(len(all))]
				p = w.adds(t, p, id, program)
				_, _, e := chain.Add(p, id, program)
				met[e]++
				if _, there := w[id]; there && len(w) == before {
					p = w.gives(t, p, id)
				}
			case 3:
				p = w.takes(t, p, id)
			default:
				before := len(w)
				p = w.gives(t, p, id)
				if len(w) < before-1 {
					gones++
				}
			}
			most = max(most, len(w))
			if !checked(t, p) {
				t.Fatalf("%+v", p)
			}
			if step%10 == 9 {
				for id := -1; id <= 25; id++ {
					w.asks(t, p, id)
				}
			}
		}
		if is, e := chain.Honest(p); !is || e != api.OK {
			t.Errorf("Honest: %t, %d", is, e)
		}
	}
	for _, e := range []api.Errno{api.OK, api.ErrNone, api.ENOMEM, api.ErrSize, api.ErrLast} {
		if met[e] < 10 {
			t.Errorf("%d was met %d times only", e, met[e])
		}
	}
	if most < 24 || gones < 10 {
		t.Error(most, gones)
	}
}

func TestAddWrittenOut(t *testing.T) { // P9.2
	p, id := must(t, api.Pool{}, 0, unless(5, errnoWord))
	want := api.Node{Id: 1, Program: unless(5, errnoWord), Size: 8, Count: 1, One: ^uint64(1 << 5), Two: ^uint64(1 << 5)}
	if id != 1 || len(p.Nodes) != 1 || !alikeRows(p.Nodes[0], want) {
		t.Fatalf("%d, %+v", id, p)
	}
	p, id = must(t, p, 1, byArch(api.ArchOne, errnoWord))
	next := api.Node{Id: 2, Parent: 1, Program: byArch(api.ArchOne, errnoWord), Size: 16, Count: 1, One: math.MaxUint64}
	// The Parent's Count stays.
	if id != 2 || len(p.Nodes) != 2 || !alikeRows(p.Nodes[0], want) || !alikeRows(p.Nodes[1], next) {
		t.Fatalf("%d, %+v", id, p)
	}
	p, id = must(t, p, 0, byArch(api.ArchTwo, errnoWord))
	if n := p.Nodes[2]; id != 3 || n.Parent != 0 || n.Size != 8 || n.One != 0 || n.Two != math.MaxUint64 {
		t.Fatalf("%d, %+v", id, p)
	}
}

func TestAddTakesTheLeastId(t *testing.T) { // P9.2
	for a := 1; a <= 24; a++ {
		for b := a; b <= 24; b++ {
			var p api.Pool
			for id := 1; id <= 24; id++ {
				if id != a && id != b {
					p.Nodes = append(p.Nodes, api.Node{Id: id, Program: says(uint32(id)), Size: 5, Count: 1})
				}
			}
			for _, want := range slices.Compact([]int{a, b}) {
				p = tell(p).adds(t, p, 0, says(77))
				if n := p.Nodes[want-1]; n.Id != want || n.Program[0].K != 77 {
					t.Fatalf("without %d and %d: %+v", a, b, p)
				}
			}
			if _, id, e := chain.Add(p, 0, says(77)); id != 0 || e != api.ENOMEM {
				t.Errorf("to 24: %d, %d", id, e)
			}
		}
	}
	// An Id that was gone is given again, and may be a child's whose Parent has a greater one.
	p := family(t)
	p.Nodes = slices.Delete(p.Nodes, 2, 3)
	p.Nodes[1].Count--
	if !checked(t, p) {
		t.Fatal(p)
	}
	p, _ = chain.Take(p, 5)
	p, id := must(t, p, 5, says(0))
	if l, e := chain.Chain(p, id); id != 3 || !slices.Equal(l, []int{3, 5, 4, 2, 1}) || e != api.OK {
		t.Error(id, l, e)
	}
}

func TestAddWithoutRoom(t *testing.T) { // P9.2
	for _, sizes := range [][]int{{64, 64, 64, 48}, {64, 64, 64, 1, 43}, {60, 60, 60, 60}, {1, 64, 64, 64, 43}} {
		var p api.Pool
		id := 0
		for _, n := range sizes {
			p, id = must(t, p, id, long(n, 0))
		}
		if n, _ := chain.Find(p, id); n.Size != 256 {
			t.Fatal(n.Size)
		}
		for n := 1; n <= 64; n++ {
			if q, new, e := chain.Add(p, id, long(n, 0)); len(q.Nodes) != 0 || new != 0 || e != api.ENOMEM {
				t.Errorf("of %d behind 256: %d, %d", n, new, e)
			}
		}
		// The Size of the chain counts, not that of the pool.
		must(t, p, 0, long(64, 0))
	}
	for n := 1; n <= 64; n++ {
		p, id := must(t, api.Pool{}, 0, long(64, 0))
		p, id = must(t, p, id, long(64, 0))
		p, id = must(t, p, id, long(n, 0))
		tell(p).adds(t, p, id, long(48, 0))
		room := 256 - 68 - 68 - n - 4 - 4
		if q, new := must(t, p, id, long(min(room, 64), 0)); new != 4 || q.Nodes[3].Size != min(256, 68+68+n+4+68) {
			t.Errorf("of %d: %d", n, q.Nodes[3].Size)
		}
		if _, _, e := chain.Add(p, id, long(min(room+1, 64), 0)); room < 64 && e != api.ENOMEM {
			t.Errorf("of %d: %d", n, e)
		}
	}
}

func TestAddOfSeveralErrors(t *testing.T) { // P9.2, R2
	full := api.Pool{}
	for range 24 {
		full, _ = must(t, full, 0, says(0))
	}
	heavy := api.Pool{}
	id := 0
	for range 3 {
		heavy, id = must(t, heavy, id, long(64, 0))
	}
	for _, p := range []api.Pool{{}, full, heavy} {
		for _, q := range []struct {
			parent  int
			program []api.Insn
			want    api.Errno
		}{
			{0, nil, api.ErrSize}, {0, []api.Insn{}, api.ErrSize}, {0, long(65, 0), api.ErrSize}, {99, long(65, 0), api.ErrSize}, {3, long(65, 0), api.ErrSize},
			{99, []api.Insn{{Code: 0x94}}, api.ErrCode}, {-1, []api.Insn{in("ld.abs", 64), in("ret.a", 0)}, api.ErrLoad}, {0, []api.Insn{in("div.k", 0), in("ret.a", 0)}, api.ErrZero},
			{25, []api.Insn{in("lsh.k", 32), in("ret.a", 0)}, api.ErrShift}, {0, []api.Insn{in("st", 16), in("ret.a", 0)}, api.ErrMem}, {99, []api.Insn{in("ja", 5), in("ret.a", 0)}, api.ErrJump},
			{0, []api.Insn{in("ret.a", 0), in("neg", 0)}, api.ErrLast}, {3, []api.Insn{in("neg", 0)}, api.ErrLast},
			{99, says(0), api.ErrNone}, {-1, long(64, 0), api.ErrNone}, {25, says(0), api.ErrNone}, {math.MinInt, says(0), api.ErrNone}, {math.MaxInt, says(0), api.ErrNone}, {1<<32 + 1, says(0), api.ErrNone},
		} {
			got, new, e := chain.Add(p, q.parent, q.program)
			if len(got.Nodes) != 0 || new != 0 || e != q.want {
				t.Errorf("Add(%d, %+v) to %d filters: %+v, %d, %d, not %d", q.parent, q.program, len(p.Nodes), got, new, e, q.want)
			}
		}
	}
	for _, q := range []struct {
		p      api.Pool
		parent int
	}{{full, 0}, {full, 24}, {full, 1}, {heavy, 3}} {
		if got, new, e := chain.Add(q.p, q.parent, long(64, 0)); len(got.Nodes) != 0 || new != 0 || e != api.ENOMEM {
			t.Errorf("Add(%d) to %d filters: %+v, %d, %d", q.parent, len(q.p.Nodes), got, new, e)
		}
	}
}

func TestAddWithoutAReferenceOfTheParent(t *testing.T) { // P9.2
	p, _ := must(t, api.Pool{}, 0, says(0))
	p, _ = must(t, p, 1, says(0))
	// The words tell no error: the pool with it is answered, though the Parent counts too few then.
	q, id := must(t, p, 1, says(0))
	if id != 3 || len(q.Nodes) != 3 || q.Nodes[0].Count != 1 || mayBe(q) {
		t.Errorf("%+v", q)
	}
	checked(t, q)
}

func TestTakeAndGiveOfWhatIsNotThere(t *testing.T) { // P9.3
	for _, p := range []api.Pool{{}, family(t)} {
		for _, id := range []int{math.MinInt, -6, -1, 0, 7, 8, 23, 24, 25, 26, 1<<32 + 1, math.MaxInt} {
			if q, e := chain.Take(p, id); len(q.Nodes) != 0 || e != api.ErrNone {
				t.Errorf("Take(%d): %+v, %d", id, q, e)
			}
			if q, gone, e := chain.Give(p, id); len(q.Nodes) != 0 || len(gone) != 0 || e != api.ErrNone {
				t.Errorf("Give(%d): %+v, %v, %d", id, q, gone, e)
			}
		}
	}
}

func TestGiveWrittenOut(t *testing.T) { // P9.3
	// family: 1 counts 1 (2); 2 counts 3 (3, 4, one beside); 3 counts 1; 4 counts 1 (5); 5 counts 1; 6 counts 2.
	p := family(t)
	counts := func(p api.Pool) (l [24]int) {
		for _, n := range p.Nodes {
			l[n.Id-1] = n.Count
		}
		return l
	}
	if counts(p) != [24]int{1, 3, 1, 1, 1, 2} {
		t.Fatal(counts(p))
	}
	for _, q := range []struct {
		ids   []int
		gone  []int
		error api.Errno
		left  [24]int
	}{
		{[]int{1}, nil, api.ErrNone, [24]int{}},
		{[]int{4}, nil, api.ErrNone, [24]int{}},
		{[]int{2}, nil, api.OK, [24]int{1, 2, 1, 1, 1, 2}},
		{[]int{2, 2}, nil, api.ErrNone, [24]int{}},
		{[]int{3}, []int{3}, api.OK, [24]int{1, 2, 0, 1, 1, 2}},
		{[]int{3, 3}, nil, api.ErrNone, [24]int{}},
		{[]int{5}, []int{5, 4}, api.OK, [24]int{1, 2, 1, 0, 0, 2}},
		{[]int{5, 3}, []int{3}, api.OK, [24]int{1, 1, 0, 0, 0, 2}},
		{[]int{5, 3, 2}, []int{2, 1}, api.OK, [24]int{0, 0, 0, 0, 0, 2}},
		{[]int{2, 3, 5}, []int{5, 4, 2, 1}, api.OK, [24]int{0, 0, 0, 0, 0, 2}},
		{[]int{2, 5, 3}, []int{3, 2, 1}, api.OK, [24]int{0, 0, 0, 0, 0, 2}},
		{[]int{6}, nil, api.OK, [24]int{1, 3, 1, 1, 1, 1}},
		{[]int{6, 6}, []int{6}, api.OK, [24]int{1, 3, 1, 1, 1}},
		{[]int{6, 6, 2, 5, 3}, []int{3, 2, 1}, api.OK, [24]int{}},
	} {
		at := p
		for i, id := range q.ids {
			behind, gone, e := chain.Give(at, id)
			if i < len(q.ids)-1 {
				at = behind
				continue
			}
			if !slices.Equal(gone, q.gone) || e != q.error || counts(behind) != q.left {
				t.Errorf("Give of %v: %v, %v, %d", q.ids, counts(behind), gone, e)
			}
		}
	}
}

func TestWhatIsAddedAndGivenBackLeadsBack(t *testing.T) { // P9.6
	for _, p := range []api.Pool{{}, family(t)} {
		for parent := range len(p.Nodes) + 1 {
			for _, program := range [][]api.Insn{says(0), long(64, 0), byArg(errnoWord)} {
				q := p
				if parent > 0 {
					q, _ = chain.Take(p, parent)
				}
				q, id := must(t, q, parent, program)
				if is, e := chain.Honest(q); !is || e != api.OK {
					t.Errorf("behind Add(%d): %t, %d", parent, is, e)
				}
				q, gone, e := chain.Give(q, id)
				if !alike(p, q) || !slices.Equal(gone, []int{id}) || e != api.OK {
					t.Errorf("behind Add(%d) and Give(%d): %+v, %v, %d", parent, id, q, gone, e)
				}
			}
		}
		for id := 1; id <= len(p.Nodes); id++ {
			q, _ := chain.Take(p, id)
			q, gone, e := chain.Give(q, id)
			if !alike(p, q) || len(gone) != 0 || e != api.OK {
				t.Errorf("behind Take(%d) and Give: %+v, %v, %d", id, q, gone, e)
			}
		}
	}
}

func TestAllThatWasAddedIsGoneOnce(t *testing.T) { // P9.6
	for seed := range uint64(40) {
		next := chance(seed)
		var p api.Pool
		var held []int
		gone := map[int]int{}
		added := 0
		for range 24 {
			parent := 0
			if len(held) > 0 && next(4) > 0 {
				parent = held[next(len(held))]
				p, _ = chain.Take(p, parent)
			}
			q, id, e := chain.Add(p, parent, long(1+next(30), 0))
			if e != api.OK {
				if parent > 0 {
					p, _, _ = chain.Give(p, parent)
				}
				continue
			}
			p, held, added = q, append(held, id), added+1
		}
		for len(held) > 0 {
			at := next(len(held))
			q, l, e := chain.Give(p, held[at])
			if e != api.OK || !checked(t, q) {
				t.Fatalf("Give(%d) of %+v: %d", held[at], p, e)
			}
			for _, id := range l {
				gone[id]++
			}
			p, held = q, slices.Delete(held, at, at+1)
		}
		if len(p.Nodes) != 0 || len(gone) != added {
			t.Errorf("seed %d: %d of %d are gone, %+v is left", seed, len(gone), added, p)
		}
		for id, times := range gone {
			if times != 1 {
				t.Errorf("seed %d: %d is gone %d times", seed, id, times)
			}
		}
	}
}

// behindEnd answers a list in whose memory more rows follow, and a function that says whether it all is as it was.
func behindEnd(t *testing.T, p api.Pool) (api.Pool, func() bool) {
	t.Helper()
	memory := deep(p)
	extra := api.Node{Id: 24, Program: says(9), Size: 5, Count: 7, One: 3}
	memory.Nodes = append(memory.Nodes, extra, extra, extra)
	for i := range memory.Nodes {
		n := &memory.Nodes[i]
		n.Program = append(n.Program, in("neg", 0), in("tax", 0))
	}
	before := deep(memory)
	handed := api.Pool{Nodes: slices.Clone(memory.Nodes)}
	for i := range handed.Nodes {
		n := &handed.Nodes[i]
		n.Program = n.Program[:len(n.Program)-2]
	}
	rows := handed.Nodes
	handed.Nodes = rows[:len(p.Nodes)]
	return handed, func() bool {
		for i, n := range rows {
			n.Program = n.Program[:len(n.Program)+2]
			if !alikeRows(n, before.Nodes[i]) {
				return false
			}
		}
		return true
	}
}

func TestWhatIsHandedInStays(t *testing.T) { // R3
	for _, base := range []api.Pool{{}, family(t)} {
		p, stays := behindEnd(t, base)
		if !alike(p, base) {
			t.Fatal(p)
		}
		for id := -1; id <= 8; id++ {
			program := append(unless(5, 0), in("neg", 0), in("tax", 0))[:4]
			before := slices.Clone(program[:6])
			chain.Add(p, id, program)
			chain.Take(p, id)
			chain.Give(p, id)
			chain.Find(p, id)
			chain.Chain(p, id)
			chain.Above(p, 2, id)
			chain.Eval(p, id, api.Data{Nr: 5})
			chain.Fast(p, id, 5, api.ArchOne)
			if !slices.Equal(program[:6], before) {
				t.Errorf("the program handed to Add(%d) has become %+v", id, program[:6])
			}
		}
		chain.Check(p)
		chain.Honest(p)
		chain.Same(p, base)
		chain.Same(base, p)
		if !stays() {
			t.Errorf("%+v has changed", base)
		}
	}
}

// spoil overwrites all memory of a pool, the room behind its lists' ends too.
func spoil(p api.Pool) {
	rows := p.Nodes[:cap(p.Nodes)]
	for i := range rows {
		program := rows[i].Program[:cap(rows[i].Program)]
		for j := range program {
			program[j] = api.Insn{Code: 0x94, K: 5}
		}
		rows[i] = api.Node{Id: 77}
	}
}

func TestAnswersAreNewMemory(t *testing.T) { // R3
	program := unless(5, 0)
	for _, call := range []func(p api.Pool) api.Pool{
		func(p api.Pool) api.Pool { q, _, _ := chain.Add(p, 2, program); return q },
		func(p api.Pool) api.Pool { q, _ := chain.Take(p, 2); return q },
		func(p api.Pool) api.Pool { q, _, _ := chain.Give(p, 2); return q },
		func(p api.Pool) api.Pool { q, _, _ := chain.Give(p, 5); return q },
	} {
		p, stays := behindEnd(t, family(t))
		one, other := call(p), call(p)
		want := deep(one)
		spoil(one)
		if !stays() || !alike(other, want) || !slices.Equal(program, unless(5, 0)) {
			t.Errorf("an answer of %+v shares memory", want)
		}
		// No two lists of an answer share any.
		for i := range other.Nodes {
			l := other.Nodes[i].Program
			for j := range l[:cap(l)] {
				l[:cap(l)][j] = api.Insn{Code: 0x94}
			}
			for k := range other.Nodes {
				if k > i && !alikeRows(other.Nodes[k], want.Nodes[k]) {
					t.Errorf("the programs %d and %d of %+v share memory", i, k, want)
				}
			}
		}
		// What was handed in may change: the answer stays.
		third := call(p)
		spoil(p)
		program[0].K = 12
		if !alike(third, want) {
			t.Errorf("%+v hangs on what was handed in", want)
		}
		program[0].K = 0
	}
	// Filters that are handed in with one program among them have each its own in the answer.
	shared := family(t)
	shared.Nodes[2].Program = shared.Nodes[1].Program
	q, e := chain.Take(shared, 1)
	if e != api.OK {
		t.Fatal(e)
	}
	q.Nodes[1].Program[0].K = 99
	if q.Nodes[2].Program[0].K == 99 {
		t.Error("the programs 1 and 2 share memory")
	}
	p := family(t)
	l, _ := chain.Chain(p, 5)
	more, _ := chain.Chain(p, 5)
	clear(l[:cap(l)])
	if !slices.Equal(more, []int{5, 4, 2, 1}) {
		t.Error(more)
	}
}
