package extent_test

import (
	"slices"
	"strconv"
	"sync"
	"testing"

	"diapause/extent"
)

// spoil writes over all of a list, with what is spare behind it.
func spoil(l []extent.Span) {
	l = l[:cap(l)]
	for k := range l {
		l[k] = span(99, 99)
	}
}

// TestSpansIsACopy holds P0.3: what is done to a list that was handed out changes neither the Room nor another list.
func TestSpansIsACopy(t *testing.T) {
	for ranges := range 20 {
		d := newBoth(t, 2, 60, "lists handed out")
		d.takes(60, 2)
		for k := range ranges {
			d.give(3+3*k, 1+k%2)
		}
		first, second := d.r.Spans(), d.r.Spans()
		spoil(first)
		if !slices.Equal(second, d.p.spans()) {
			t.Errorf("P0.3: Spans changed with another one handed out: %v", second)
		}
		d.same("spoiling Spans")
		_ = append(second, span(98, 98))
		_ = append(second[:0], span(97, 97))
		d.same("appending to Spans")
		kept := d.r.Spans()
		want := slices.Clone(kept)
		d.take(1)
		d.give(2, 1)
		d.give(60, 2)
		d.take(2)
		d.copied("a copy").take(1)
		if !slices.Equal(kept, want) {
			t.Errorf("P0.3: Spans, handed out before, changed with the Room: %v", kept)
		}
	}
}

// TestCopyStandsAlone holds that a Copy and its elder each go their own way.
func TestCopyStandsAlone(t *testing.T) {
	for _, n := range []int{0, 1, 2, 64, 2048} {
		d := newBoth(t, 3, n, "the elder of "+strconv.Itoa(n))
		d.use(4, 20)
		d.use(50, 3)
		c := d.copied("the copy of " + strconv.Itoa(n))
		calls := []func(*both){
			func(x *both) { x.take(1) },
			func(x *both) { x.take(9) },
			func(x *both) { x.use(3, 1) },
			func(x *both) { x.use(30, 5) },
			func(x *both) { x.give(4, 20) },
			func(x *both) { x.give(51, 1) },
			func(x *both) { x.give(3, 1) },
			func(x *both) { x.take(n) },
		}
		for k, call := range calls {
			call(d)
			c.same("what was done to its elder")
			calls[len(calls)-1-k](c)
			d.same("what was done to its copy")
		}
		e := c.copied("the copy of a copy")
		e.take(1)
		e.give(5, 3)
		c.same("what was done to its copy")
		d.same("what was done to a copy of its copy")
	}
}

// TestCopyOutlives holds that a copy of each Room on a long way stays as it was.
func TestCopyOutlives(t *testing.T) {
	d := newBoth(t, 0, 40, "a long way")
	var copies []*both
	for k := range 40 {
		copies = append(copies, d.copied("the copy "+strconv.Itoa(k)))
		d.take(1 + k%3)
		if k%4 == 3 {
			d.give(k/2, 1+k%5)
		}
	}
	for _, c := range copies {
		c.same("all that was done to its elder")
	}
}

// TestRoomsAtOnce holds that Rooms which are used at the same time do not touch one another.
func TestRoomsAtOnce(t *testing.T) {
	var group sync.WaitGroup
	elder := extent.New(7, 300)
	for k := range 6 {
		c := elder.Copy()
		group.Go(func() {
			d := &both{t, "one of several", extent.New(k, 300), newPlain(k, 300)}
			e := &both{t, "one of several copies", c, newPlain(7, 300)}
			for n := range 60 {
				for _, x := range []*both{d, e} {
					x.take(1 + (n+k)%9)
					x.give(20+n, 1+k)
					x.use(40+n*k, 2)
				}
			}
		})
	}
	group.Wait()
	if l := elder.Spans(); len(l) != 1 || l[0] != span(7, 300) {
		t.Errorf("P0.5: the elder of copies that were used: %v", l)
	}
}

// TestSameAgain holds P0.5: the same calls find the same sectors.
func TestSameAgain(t *testing.T) {
	var first []extent.Span
	for n := range 5 {
		r := extent.New(9, 200)
		var l []extent.Span
		for k := range 70 {
			s, _ := r.Take(1 + k%7)
			l = append(l, s)
			if k%3 == 2 {
				r.Give(l[k-1])
			}
		}
		l = append(l, r.Spans()...)
		if n == 0 {
			first = l
		} else if !slices.Equal(l, first) {
			t.Error("P0.5: the same calls find other sectors")
		}
	}
}
