package fence

import (
	"slices"
	"testing"

	"dispatcher/api"
	"dispatcher/front"
	"dispatcher/inter"
	"dispatcher/sample"
	"dispatcher/tree"
)

func made(t *testing.T, s string, cfg api.Config) *inter.State {
	t.Helper()
	p, w := front.Compile([]byte(s))
	state, e := inter.New(p, cfg)
	if w != (tree.Wrong{}) || e != api.OK {
		t.Fatalf("%q: %v %d", s, w, e)
	}
	return state
}

func goes(rank int) api.Pick { return api.Pick{Kind: api.PkGo, Rank: rank} }

// TestTo: P21.1, P21.2.
func TestTo(t *testing.T) {
	cfg := api.Config{Ranks: 2, Steps: 50}
	s := made(t, "stop;", cfg)
	if Is(s) || !slices.Equal(Forced(s), []api.Pick{goes(0), goes(1)}) {
		t.Errorf("%v", Forced(s))
	}
	if l, e := To(s, -1); l != nil || e != api.ErrArg || s.Done() != 0 {
		t.Errorf("%v %d", l, e)
	}
	if l, e := To(s, 0); len(l) != 0 || e != api.ErrSteps || s.Done() != 0 {
		t.Errorf("%v %d", l, e)
	}
	if l, e := To(s.Copy(), 1); !slices.Equal(l, []api.Pick{goes(0)}) || e != api.ErrSteps {
		t.Errorf("%v %d", l, e)
	}
	if l, e := To(s, 2); !slices.Equal(l, []api.Pick{goes(0), goes(1)}) || e != api.OK || !Is(s) || len(Forced(s)) != 0 {
		t.Errorf("%v %d", l, e)
	}
	if l, e := To(s, 0); len(l) != 0 || e != api.OK {
		t.Errorf("%v %d", l, e)
	}
	loop := made(t, "while 1 { }", cfg)
	if l, e := To(loop, 1000); len(l) != 1000 || e != api.ErrSteps || loop.Done() != 1000 {
		t.Errorf("%d %d", len(l), e)
	}
	s = made(t, "if rank { send(0, 0, 0, 7, 1); } else { recv(0, any, 0); }", cfg)
	if l, e := To(s, 99); !slices.Equal(l, []api.Pick{goes(0), goes(1)}) || e != api.OK || !Is(s) || len(s.Enabled()) != 1 {
		t.Errorf("%v %d", l, e)
	}
	s = made(t, "if rank { send(0, 0, 0, 7, 1); } else { recv(0, 1, 0); }", cfg)
	m := api.Pick{Kind: api.PkMatch, Rank: 0, From: 1}
	if l, e := To(s, 99); !slices.Equal(l, []api.Pick{goes(0), goes(1), m, goes(0), goes(1)}) || e != api.OK || !s.Terminal() {
		t.Errorf("%v %d", l, e)
	}
	for _, s := range []*inter.State{nil, {}} {
		if l, e := To(s, 3); l != nil || e != api.ErrNil || !Is(s) || Forced(s) != nil {
			t.Errorf("nobody's: %v %d", l, e)
		}
		if _, e := To(s, -3); e != api.ErrNil {
			t.Errorf("nobody's: %d", e)
		}
	}
}

// TestMany: P21.3, P21.4, P21.5.
func TestMany(t *testing.T) {
	for seed := range 300 {
		d := sample.Seeded(seed)
		ranks := 2 + d.Throw(3)
		s := made(t, sample.Talk(seed, ranks, 6), api.Config{Ranks: ranks, Steps: 99, Eager: d.Throw(2), Polls: d.Throw(3)})
		for !s.Terminal() {
			other, pieces, sign := s.Copy(), s.Copy(), s.Signature()
			was := s.Enabled()
			l, e := To(s, 1000)
			if e != api.OK || !Is(s) || !slices.Equal(s.Signature(), sign) {
				t.Fatalf("%d: %d", seed, e)
			}
			for _, p := range was {
				if !slices.Contains(l, p) && !slices.Contains(s.Enabled(), p) {
					t.Fatalf("%d: %v is lost", seed, p)
				}
			}
			many := 0
			for ; !Is(other); many++ {
				f := Forced(other)
				other.Do(f[d.Throw(len(f))])
			}
			if many != len(l) || !inter.Same(s, other) {
				t.Fatalf("%d: another order, another fence", seed)
			}
			part := d.Throw(len(l) + 1)
			a, e := To(pieces, part)
			b, e2 := To(pieces, len(l)-part)
			if (e == api.OK) != (part == len(l)) || e2 != api.OK || !slices.Equal(append(a, b...), l) {
				t.Fatalf("%d: %v and %v: %d %d", seed, a, b, e, e2)
			}
			if left := s.Enabled(); len(left) > 0 {
				s.Do(left[d.Throw(len(left))])
			}
		}
	}
}
