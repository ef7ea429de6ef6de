package check_test

import (
	"math/rand/v2"
	"slices"
	"strconv"
	"strings"
	"testing"

	"diapause/api"
	"diapause/code"
)

// frame is the beginning and the end of a block around something, with what it leaves and what a branch to it takes.
type frame struct{ before, behind, result, label string }

// frames are those of each kind and each result. What is in them, and what follows them, ends by unreachable.
func frames() []frame {
	var all []frame
	for r, result := range []string{"", "1", "2"} {
		kind := "," + strconv.Itoa(r) + " "
		all = append(all,
			frame{"block" + kind, " unreachable end ", result, result},
			frame{"loop" + kind, " unreachable end ", result, ""},
			frame{"i32.const,0 if" + kind, " unreachable else unreachable end ", result, result},
			frame{"i32.const,0 if" + kind + "unreachable else ", " unreachable end ", result, result},
		)
	}
	return all
}

// TestBlocks holds what a block leaves.
func TestBlocks(t *testing.T) {
	fits(t, ":", "block end", "loop end", "i32.const,0 if end", "i32.const,0 if else end", "block i32.const,1 drop end", "loop i64.const,1 drop end",
		"block block loop end end end", "i32.const,0 if i32.const,0 if else end else loop end end", "i32.const,1 block end drop", "i32.const,1 loop end drop",
		"i32.const,1 i32.const,0 if end drop", "i64.const,1 i32.const,0 if else end drop", "block,1 i32.const,1 end drop", "loop,2 i64.const,1 end drop",
		"i32.const,0 if,2 i64.const,1 else i64.const,2 end drop", "i64.const,1 block,1 i32.const,1 end i32.eqz drop i64.eqz drop")
	unfit(t, ":", "block i32.const,1 end", "block i32.const,1 end drop", "loop i32.const,1 end", "loop i32.const,1 end drop", "if end", "i64.const,0 if end", "if else end",
		"i32.const,0 if i32.const,1 end", "i32.const,0 if i32.const,1 end drop", "i32.const,0 if else i32.const,1 end", "i32.const,0 if i32.const,1 else i32.const,1 end drop drop",
		"block,1 end drop", "loop,1 end drop", "block,1 i64.const,1 end drop", "block,1 i32.const,1 end", "block,1 i32.const,1 i32.const,1 end drop",
		"block,1 i32.const,1 i32.const,1 end drop drop", "i32.const,1 block drop end", "i32.const,1 loop drop end", "i32.const,1 i32.const,0 if drop end",
		"i32.const,1 i32.const,0 if else drop end", "i32.const,1 i32.const,0 if drop else drop end", "i32.const,1 block,1 end drop", "i32.const,1 block,1 end drop drop",
		"i32.const,1 block drop i32.const,1 end drop", "i32.const,1 block i32.eqz end drop", "block i32.const,1 block drop end end", "i32.const,0 if drop else i32.const,1 end")
	fits(t, ":1", "block,1 i32.const,1 end", "loop,1 i32.const,1 end", "i32.const,0 if,1 i32.const,1 else i32.const,2 end", "block,1 block,1 loop,1 i32.const,1 end end end",
		"i32.const,1 block end", "i32.const,1 loop end", "i32.const,1 i32.const,0 if end", "i32.const,1 i32.const,0 if,1 i32.const,1 else i32.const,2 end i32.add",
		"block,2 i64.const,1 end i32.wrap", "block,1 i32.const,1 end block,1 i32.const,2 end i32.sub", "block,1 i32.const,0 end if,1 i32.const,1 else i32.const,2 end")
	unfit(t, ":1", "block,2 i64.const,1 end", "block i32.const,1 end", "i32.const,1 block drop end", "i32.const,1 block end drop", "i32.const,1 block,1 i32.const,1 end",
		"i32.const,1 block,1 i32.const,1 i32.add end", "i32.const,1 block,1 end", "block,1 i32.const,1 end block,1 i32.const,2 end", "i32.const,0 if,1 i32.const,1 else end",
		"i32.const,0 if,1 else i32.const,1 end", "i32.const,0 if,1 i32.const,1 else i64.const,1 end", "i32.const,0 if,1 i64.const,1 else i32.const,1 end",
		"i32.const,0 if,2 i32.const,1 else i32.const,1 end", "i32.const,0 if,1 i32.const,1 i32.const,2 else i32.const,1 end", "i32.const,0 if,1 i32.const,1 else i32.const,1 i32.const,2 end",
		"i32.const,0 if i32.const,1 else i32.const,1 end", "i32.const,7 i32.const,0 if,1 else i32.const,1 end", "i32.const,7 i32.const,0 if,1 i32.const,1 else end")
}

// TestIfWithoutElse holds that such a one has no result, whatever is in it.
func TestIfWithoutElse(t *testing.T) {
	for r, result := range []string{"", "1", "2"} {
		for _, inside := range []string{consts(result), "unreachable", consts(result) + "br,1", consts(result) + "return", "unreachable " + consts(result), consts(result) + "br,0", "loop br,0 end unreachable"} {
			s := "i32.const,0 if," + strconv.Itoa(r) + " " + inside
			try(t, ":", "", s+" end unreachable", result == "")
			try(t, ":", "", s+" else unreachable end unreachable", true)
			try(t, ":", "", "unreachable "+s+" end", result == "")
			try(t, ":"+result, "", "unreachable "+s+" end", result == "")
			try(t, ":"+result, "", s+" end "+drops(result)+consts(result), result == "")
			try(t, ":"+result, "", s+" else unreachable end", true)
		}
	}
}

// TestBranches takes each branch to each block around it, to the body, and to one block beyond it.
func TestBranches(t *testing.T) {
	all := frames()
	for _, result := range []string{"", "1", "2"} {
		hold := func(around ...frame) {
			before, behind := "", ""
			labels := []string{result}
			for _, f := range around {
				before, behind = before+f.before, f.behind+behind
				labels = slices.Insert(labels, 0, f.label)
			}
			branchTo(t, result, before, behind, labels)
		}
		hold()
		for _, a := range all {
			hold(a)
			for _, b := range all {
				hold(a, b)
			}
		}
		hold(all[0], all[5], all[9])
		hold(all[1], all[2], all[4], all[8])
	}
}

// branchTo holds the branches in the innermost of some blocks, which have these labels, the innermost first and that of the body last.
func branchTo(t *testing.T, result, before, behind string, labels []string) {
	t.Helper()
	hold := func(s string, want bool) {
		t.Helper()
		try(t, ":"+result, "", before+s+behind+" unreachable", want)
	}
	for out := range len(labels) + 2 {
		n, there := strconv.Itoa(out), out < len(labels)
		label := result
		if there {
			label = labels[out]
		}
		for _, value := range []string{"", "1", "2", "12"} {
			enough := strings.HasSuffix(value, label)
			hold(consts(value)+"br,"+n, there && enough)
			hold(consts(value)+"i32.const,0 br_table,"+n, there && enough)
			hold(consts(value)+"i32.const,0 br_table,"+n+","+n, there && enough)
			hold(consts(value)+"return", strings.HasSuffix(value, result))
			hold(consts(value)+"i32.const,0 br_if,"+n+drops(value), there && enough)
			// It leaves nothing but what it took.
			hold(consts(value)+"i32.const,0 br_if,"+n+drops(value)+"drop unreachable", false)
			hold(consts(value)+"i64.const,0 br_if,"+n, false)
			hold(consts(value)+"i64.const,0 br_table,"+n, false)
			hold("unreachable "+consts(value)+"br,"+n, there && (enough || strings.HasSuffix(label, value)))
			hold("unreachable "+consts(value)+"i32.const,0 br_if,"+n, there && (enough || strings.HasSuffix(label, value)))
		}
		hold("br,"+n, there && label == "")
		hold("br_if,"+n, false)
		hold("br_table,"+n, false)
		hold("unreachable br_if,"+n+consts("1")+"drop", there)
		hold("unreachable br_table,"+n, there)
		// What it leaves has its own kind.
		for _, kind := range []string{"1", "2"} {
			hold("unreachable br_if,"+n+map[string]string{"1": " i32.eqz", "2": " i64.eqz"}[kind], there && (label == "" || label == kind))
		}
		if there {
			hold(consts(other("1"[0])+label)+"br,"+n, true)
		}
	}
}

// TestBranchesOutOfMany goes out of as many blocks as can be nested.
func TestBranchesOutOfMany(t *testing.T) {
	for _, b := range []string{"block ", "loop "} {
		for _, n := range []int{0, 1, 38, 39, 40, 41, 42, 1000} {
			nest := func(s string) string { return strings.Repeat(b, 40) + s + strings.Repeat(" end", 40) }
			try(t, ":", "", nest("br,"+strconv.Itoa(n)), n <= 40)
			try(t, ":", "", nest("i32.const,0 br_if,"+strconv.Itoa(n)), n <= 40)
			try(t, ":", "", nest("i32.const,0 br_table,40,0,"+strconv.Itoa(n)+",39"), n <= 40)
			try(t, ":1", "", nest("i32.const,0 br,"+strconv.Itoa(n))+" unreachable", n <= 40)
			try(t, ":1", "", nest("br,"+strconv.Itoa(n))+" unreachable", n < 40)
		}
	}
}

// TestTables holds that all targets of a br_table take the same kinds.
func TestTables(t *testing.T) {
	all := frames()
	inner := []frame{all[0], all[5], all[9]} // a block that takes nothing, a loop with a result of 1, which takes nothing, and a loop with one of 2
	for _, more := range []frame{all[4], all[8], all[1]} {
		for _, result := range []string{"", "1", "2"} {
			before, behind := "", ""
			labels := []string{result}
			for _, f := range append(slices.Clone(inner), more) {
				before, behind = before+f.before, f.behind+behind
				labels = slices.Insert(labels, 0, f.label)
			}
			for _, targets := range [][]int{{0}, {0, 0}, {0, 1}, {1, 0}, {1, 2}, {2, 1, 3}, {0, 4}, {4, 0}, {4, 4}, {1, 4}, {4, 1}, {3, 4, 1}, {1, 1, 1, 0}, {0, 1, 1, 1}, {1, 0, 1}, {4, 4, 5}, {5, 4}, {0, 1000}, {1000, 0}, {1, 2, 5, 3}} {
				tableOf(t, result, before, behind, labels, targets)
			}
		}
	}
	fits(t, ":", "i32.const,0 br_table,"+strings.Repeat("0,", 50)+"0", "i32.const,0 br_table,0")
	unfit(t, ":", "i32.const,0 br_table,"+strings.Repeat("0,", 49)+"1,0", "i32.const,0 br_table,"+strings.Repeat("0,", 50)+"1", "br_table,0", "br_table,0,0")
}

// tableOf holds a br_table with these targets, the one that is taken if no other is last.
func tableOf(t *testing.T, result, before, behind string, labels []string, targets []int) {
	t.Helper()
	text := "br_table"
	good := true
	for _, n := range targets {
		text += "," + strconv.Itoa(n)
		good = good && n < len(labels) && labels[n] == labels[targets[0]]
	}
	for _, value := range []string{"", "1", "2"} {
		takes := good && strings.HasSuffix(value, labels[targets[0]])
		try(t, ":"+result, "", before+consts(value)+"i32.const,0 "+text+behind+"unreachable", takes)
		try(t, ":"+result, "", before+consts(value)+"i64.const,0 "+text+behind+"unreachable", false)
		try(t, ":"+result, "", before+"unreachable"+consts(value)+"i32.const,0 "+text+behind+"unreachable", good && (takes || value == ""))
	}
	try(t, ":"+result, "", before+"unreachable "+text+behind+"unreachable", good)
}

// leaving are the instructions behind which nothing is reached, in a function without a result.
var leaving = []string{"unreachable", "br,0", "i32.const,0 br_table,0", "i32.const,0 br_table,0,0,0", "return", "i64.const,1 i32.const,1 br,0", "i64.const,1 unreachable", "i64.const,1 return", "unreachable i64.const,1 br,0"}

// TestBehindLeaving holds that a value that nothing has pushed may have any kind, and that one that was pushed has its own.
func TestBehindLeaving(t *testing.T) {
	for _, leave := range leaving {
		for s, want := range map[string]bool{
			"":                                                true,
			"nop":                                             true,
			"drop":                                            true,
			"drop drop drop":                                  true,
			"i32.add drop":                                    true,
			"i64.add drop":                                    true,
			"i64.add i32.wrap i64.extend_s drop":              true,
			"i64.add i64.extend_s drop":                       false,
			"i32.const,1 i32.add drop":                        true,
			"i64.const,1 i32.add drop":                        false,
			"i64.const,1 i64.add drop":                        true,
			"i32.const,1 i64.add drop":                        false,
			"i32.const,1 drop i64.add drop":                   true,
			"i32.const,1 i64.const,1 i32.add drop":            false,
			"i32.add":                                         false,
			"i32.const,1":                                     false,
			"i32.const,1 drop":                                true,
			"i32.const,1 drop drop":                           true,
			"drop i32.const,1":                                false,
			"i32.const,1 i32.const,1 drop":                    false,
			"select":                                          false,
			"select drop":                                     true,
			"select i32.eqz drop":                             true,
			"select i64.eqz drop":                             true,
			"select select select drop":                       true,
			"i32.const,1 select i64.eqz drop":                 true,
			"i32.const,1 select i32.eqz drop":                 true,
			"i64.const,1 select drop":                         false,
			"i64.const,1 i32.const,1 select drop":             true,
			"i64.const,1 i32.const,1 select i64.eqz drop":     true,
			"i64.const,1 i32.const,1 select i32.eqz drop":     false,
			"i32.const,1 i32.const,1 select i32.eqz drop":     true,
			"i32.const,1 i32.const,1 select i64.eqz drop":     false,
			"i64.const,1 i64.const,1 i32.const,1 select drop": true,
			"i32.const,1 i64.const,1 i32.const,1 select drop": false,
			"i64.const,1 i32.const,1 i32.const,1 select drop": false,
			"i64.const,1 i32.const,1 select i32.const,1 select i64.eqz drop": true,
			"i64.const,1 i32.const,1 select i32.const,1 select i32.eqz drop": false,
			"select i64.const,1 i32.const,1 select i64.eqz drop":             true,
			"select i64.const,1 i32.const,1 select i32.eqz drop":             false,
			"i32.eqz select drop":                     true,
			"i64.eqz select drop":                     true,
			"i64.extend_s select drop":                false,
			"i32.store":                               true,
			"i64.store":                               true,
			"i64.const,1 i64.store":                   true,
			"i64.const,1 i32.store":                   false,
			"i32.const,1 i64.store":                   false,
			"i64.const,1 i64.const,1 i64.store":       false,
			"i64.load i64.store":                      true,
			"i32.load i64.store":                      false,
			"memory.grow drop":                        true,
			"i64.const,1 memory.grow drop":            false,
			"global.set,0":                            true,
			"global.set,1":                            false,
			"global.set,4":                            false,
			"global.get,4":                            false,
			"local.get,0 drop":                        false,
			"local.set,0":                             false,
			"call,1":                                  true,
			"call,7":                                  false,
			"i32.const,1 call,1":                      false,
			"i64.const,1 call,1":                      true,
			"call_indirect,5":                         true,
			"call_indirect,8":                         false,
			"i64.const,1 call_indirect,5":             false,
			"i64.const,1 i32.const,1 call_indirect,5": true,
			"i32.load,3,0 drop":                       false,
			"br,0":                                    true,
			"br_if,0":                                 true,
			"i64.const,1 br_if,0":                     false,
			"i32.const,1 i32.const,1 br_if,0":         false,
			"i32.const,1 i32.const,1 br,0":            true,
			"i32.const,1 return drop":                 true,
			"br_table,0,0":                            true,
			"br_table,0,9":                            false,
			"br_table,9,0":                            false,
			"br,9":                                    false,
			"br_if,9":                                 false,
			"unreachable drop":                        true,
			"i64.const,1 unreachable i32.eqz drop":    true,
			// What begins there is looked at from its own beginning on.
			"block end":                                  true,
			"block drop end":                             false,
			"loop drop end":                              false,
			"block i32.const,1 end":                      false,
			"block,1 end drop":                           false,
			"block,1 i32.const,1 end drop":               true,
			"block,1 i32.const,1 end i32.eqz drop":       true,
			"block,1 i32.const,1 end i64.eqz drop":       false,
			"block,1 i32.const,1 end i64.add drop":       false,
			"block,2 i64.const,1 end i64.add drop":       true,
			"block,1 i32.add end drop":                   false,
			"block unreachable drop end":                 true,
			"block unreachable end drop":                 true,
			"i32.const,1 block end drop":                 true,
			"i32.const,1 block drop end":                 false,
			"if end":                                     true,
			"i64.const,1 if end":                         false,
			"if drop end":                                false,
			"if else drop end":                           false,
			"if unreachable drop else end drop":          true,
			"if,1 i32.const,1 else i32.const,1 end drop": true,
			"if,1 i32.const,1 end drop":                  false,
			"if,1 else i32.const,1 end drop":             false,
			"loop,1 br,0 end drop":                       true,
		} {
			for _, p := range places(leave + " " + s) {
				try(t, ":", "", p, want)
			}
		}
	}
}

// TestBehindTheElseAndTheEnd holds that nothing may be taken any more that nothing has pushed, once the block in which nothing was reached has ended.
func TestBehindTheElseAndTheEnd(t *testing.T) {
	for _, leave := range leaving {
		for _, drop := range []string{"drop", "i32.eqz drop", "i32.store", "br_if,0", "if end", "select drop"} {
			unfit(t, ":", "block "+leave+" end "+drop, "loop "+leave+" end "+drop, "i32.const,0 if "+leave+" end "+drop, "i32.const,0 if "+leave+" else "+drop+" end",
				"i32.const,0 if "+leave+" else end "+drop, "i32.const,0 if else "+leave+" end "+drop, "i32.const,0 if "+leave+" else "+leave+" end "+drop, "block block "+leave+" end "+drop+" end",
				"block block "+leave+" end end "+drop, drop+" "+leave, "block "+drop+" end "+leave, "i32.const,0 if "+drop+" else "+leave+" end")
			fits(t, ":", leave+" "+drop, "block "+leave+" "+drop+" end", "loop "+leave+" end "+leave+" "+drop, "i32.const,0 if "+leave+" "+drop+" else "+leave+" "+drop+" end "+leave+" "+drop,
				leave+" block "+leave+" end "+drop, leave+" i32.const,0 if else end "+drop, "block "+leave+" block end "+drop+" end")
		}
		// The other side begins with what lay there before.
		fits(t, ":", "i32.const,0 if "+leave+" else end", "i64.const,1 i32.const,0 if "+leave+" else end i64.eqz drop", "i64.const,1 block "+leave+" end i64.eqz drop")
		unfit(t, ":", "i64.const,1 i32.const,0 if "+leave+" else drop end", "i64.const,1 i32.const,0 if "+leave+" else end i32.eqz drop", "i64.const,1 block "+leave+" end", "i64.const,1 block "+leave+" drop end")
	}
	// What goes on may be reached.
	unfit(t, ":", "i32.const,0 br_if,0 drop", "call,5 drop", "nop drop", "block end drop", "block br,0 end drop", "loop br,0 end drop", "i32.const,0 if br,1 end drop", "block i32.const,0 br_if,1 drop end", "block i32.const,0 br_table,0 end drop")
	fits(t, ":1", "block unreachable end i32.const,1", "block,1 unreachable end", "loop,1 br,0 end", "i32.const,0 if,1 unreachable else unreachable end", "i32.const,0 if,1 i32.const,1 br,1 else i32.const,1 end", "i32.const,1 block unreachable end")
	unfit(t, ":1", "block unreachable end", "i32.const,0 if,1 unreachable else end", "i32.const,0 if,1 unreachable else i64.const,1 end", "i32.const,0 if unreachable else unreachable end", "block,2 unreachable end")
	fits(t, ":1", "unreachable", "unreachable i32.const,1", "unreachable nop", "unreachable select", "i64.const,1 unreachable", "i32.const,1 return i64.const,1 drop", "i32.const,1 return i32.const,1", "i32.const,1 br,0")
	unfit(t, ":1", "unreachable i64.const,1", "unreachable i32.const,1 i32.const,1", "unreachable i64.const,1 i32.const,1", "i32.const,1 return i64.const,1", "return", "br,0", "unreachable i64.const,1 return", "unreachable i64.const,1 br,0", "i32.const,1 return i32.const,1 i32.const,1")
}

// TestGreatBodies holds as many instructions, as many nested blocks, and as many values on the stack as there can be.
func TestGreatBodies(t *testing.T) {
	fits(t, ":", strings.Repeat("nop ", 300), strings.Repeat("i32.const,1 ", 150)+strings.Repeat("drop ", 150), strings.Repeat("block end ", 150), strings.Repeat("block ", 40)+strings.Repeat("end ", 40),
		strings.Repeat("i32.const,0 if ", 40)+strings.Repeat("else end ", 40), "unreachable "+strings.Repeat("select ", 298)+"drop", "unreachable "+strings.Repeat("drop ", 299))
	unfit(t, ":", strings.Repeat("i32.const,1 ", 300), strings.Repeat("i32.const,1 ", 151)+strings.Repeat("drop ", 149), strings.Repeat("i32.const,1 ", 149)+strings.Repeat("drop ", 151), strings.Repeat("nop ", 299)+"drop",
		"drop "+strings.Repeat("nop ", 299), strings.Repeat("block ", 40)+"drop "+strings.Repeat("end ", 40), "unreachable "+strings.Repeat("select ", 298)+"i64.eqz")
	fits(t, ":1", strings.Repeat("block,1 ", 40)+"i32.const,1"+strings.Repeat(" end", 40), strings.Repeat("i32.const,1 ", 150)+strings.Repeat("i32.add ", 149), strings.Repeat("i32.const,0 if,1 ", 40)+"unreachable"+strings.Repeat(" else i32.const,1 end", 40))
	unfit(t, ":1", strings.Repeat("block,1 ", 39)+"block i32.const,1"+strings.Repeat(" end", 40), strings.Repeat("i32.const,1 ", 150)+strings.Repeat("i32.add ", 150), strings.Repeat("i32.const,0 if,1 ", 40)+"unreachable"+strings.Repeat(" else i32.const,1 end", 39)+" end")
}

// each hands every list of up to most of these to the function.
func each(all []api.Instr, most int, visit func([]api.Instr)) {
	var grow func([]api.Instr)
	grow = func(l []api.Instr) {
		visit(l)
		if len(l) == most {
			return
		}
		for _, x := range all {
			grow(append(l[:len(l):len(l)], x))
		}
	}
	grow(nil)
}

// TestEveryShortBody goes through all bodies of some length of what makes a difference.
func TestEveryShortBody(t *testing.T) {
	for text, most := range map[string]int{
		"i32.const,1 i64.const,1 drop select unreachable block,1 if,1 loop else end br,0 br_if,0 br,1":                                                                             4,
		"i32.const,1 i64.const,2 block,1 if if,2 loop,1 else end br,1 br_if,1 br_table,0,1 return i32.add i32.wrap drop select local.get,0 local.tee,0 global.set,0 call,0 call,3": 3,
		"i32.const,1 unreachable if,1 if else end":          6,
		"i64.const,1 block,1 loop,1 end br,0 br,1 i32.wrap": 5,
		"unreachable select i32.const,1 i64.const,1 drop":   6,
	} {
		for _, signature := range []string{":", ":1", "1:2"} {
			each(body(t, text), most, func(l []api.Instr) {
				if _, ok := code.Match(l); !ok {
					return
				}
				m := with(t, signature, "", "")
				m.Codes = m.Codes[:1]
				m.Codes[0].Body = l
				checkOne(t, m)
			})
		}
	}
}

// checkOne holds Func of the first code alone against the slow way.
func checkOne(t *testing.T, m api.Module) bool {
	t.Helper()
	want := valid(m, 0)
	if got := funcOf(m); got != want {
		t.Errorf("P8.1: Func of %v of the type %v: got %t, want %t", m.Codes[0], m.Types[m.Funcs[0]], got, want)
	}
	return want
}

// pieces are what the walk lays into a body, one at a time.
const pieces = `nop unreachable drop select return i32.const,1 i32.const,0 i64.const,1 i32.add i64.add i32.eqz i64.eqz i32.wrap i64.extend_s i32.lt_s i64.lt_s
	local.get,0 local.get,1 local.get,2 local.set,0 local.set,1 local.set,3 local.tee,0 local.tee,1 local.tee,4 global.get,0 global.get,1 global.get,4 global.set,0 global.set,1 global.set,2
	call,0 call,1 call,2 call,3 call,4 call,5 call,6 call,7 call_indirect,0 call_indirect,3 call_indirect,4 call_indirect,7 call_indirect,8
	i32.load,2,0 i32.load,3,0 i64.load,3,0 i32.load8_u,0,0 i32.load8_s,1,0 i32.store i64.store i32.store8 memory.size memory.grow
	br,0 br,1 br,2 br,3 br_if,0 br_if,1 br_if,2 br_table,0 br_table,0,1 br_table,1,2 br_table,2,0,0 else`

// wrapped are blocks that the walk lays around some of a body.
var wrapped = []string{"block", "block,1", "block,2", "loop", "loop,1", "loop,2", "if", "if,1", "if,2"}

// change does one small thing to a body.
func change(t *testing.T, r *rand.Rand, l, pieces []api.Instr) []api.Instr {
	l = slices.Clone(l)
	from := r.IntN(len(l) + 1)
	to := from + r.IntN(min(4, len(l)-from+1))
	switch r.IntN(5) {
	case 0:
		return slices.Delete(l, from, to)
	case 1:
		begin := body(t, wrapped[r.IntN(len(wrapped))])
		return slices.Concat(l[:from], begin, l[from:to], body(t, "end"), l[to:])
	case 2:
		begin := body(t, wrapped[r.IntN(len(wrapped))])
		return slices.Concat(l[:from], begin, l[from:to], body(t, "else"), l[from:to], body(t, "end"), l[to:])
	}
	return slices.Insert(l, from, pieces[r.IntN(len(pieces))])
}

// TestWalk goes from valid body to valid body by small changes, and holds all that it meets.
func TestWalk(t *testing.T) {
	r := rand.New(rand.NewPCG(8, 1))
	all := body(t, pieces)
	for round := range 60 {
		m := with(t, []string{":", ":1", ":2", "12:", "21:1", "112:2"}[round%6], []string{"", "12", "221"}[round/6%3], "unreachable")
		m.Codes = m.Codes[:1]
		for range 1500 {
			before := m.Codes[0].Body
			l := change(t, r, before, all)
			if _, ok := code.Match(l); !ok || len(l) > 40 {
				continue
			}
			m.Codes[0].Body = l
			if !checkOne(t, m) {
				m.Codes[0].Body = before
			}
		}
	}
}
