package tests

import (
	"fmt"
	"go/ast"
	"go/parser"
	"go/token"
	"maps"
	"path/filepath"
	"reflect"
	"slices"
	"strings"
	"testing"

	"loop.example/g01333/impl"
)

// allFunctions has each function of the document by its name.
func allFunctions() map[string]any {
	return map[string]any{
		"AreHeaps": impl.AreHeaps, "StonesOf": impl.StonesOf, "CanBeEqual": impl.CanBeEqual, "EqualShare": impl.EqualShare, "StonesToMove": impl.StonesToMove, "FewestMoves": impl.FewestMoves, "SharingMoves": impl.SharingMoves, "MakeMove": impl.MakeMove, "PlayMoves": impl.PlayMoves, "LineDistance": impl.LineDistance, "LineFlows": impl.LineFlows, "RingDistance": impl.RingDistance, "RingFlows": impl.RingFlows, "MostCarried": impl.MostCarried, "CostOfMoves": impl.CostOfMoves, "SpreadOf": impl.SpreadOf, "LevelHeaps": impl.LevelHeaps, "HeapsText": impl.HeapsText, "ParseHeaps": impl.ParseHeaps,
		"AreFewHeaps": impl.AreFewHeaps, "CanDouble": impl.CanDouble, "DoublingsOf": impl.DoublingsOf, "DoubleHeap": impl.DoubleHeap, "PlayDoublings": impl.PlayDoublings, "PairStep": impl.PairStep, "PairAfter": impl.PairAfter, "PairLead": impl.PairLead, "PairPeriod": impl.PairPeriod, "DoesPairEmpty": impl.DoesPairEmpty, "PairStepsToEmpty": impl.PairStepsToEmpty, "FewestToEmpty": impl.FewestToEmpty, "FirstToEmpty": impl.FirstToEmpty, "QuotientDoublings": impl.QuotientDoublings, "CountReached": impl.CountReached, "FewestToBecome": impl.FewestToBecome, "HeapsBefore": impl.HeapsBefore, "DoublingsText": impl.DoublingsText, "ParseDoublings": impl.ParseDoublings,
		"AreCandies": impl.AreCandies, "MadeEven": impl.MadeEven, "CandyStep": impl.CandyStep, "CandiesAfter": impl.CandiesAfter, "StepsToRest": impl.StepsToRest, "RestOfCandies": impl.RestOfCandies, "IsResting": impl.IsResting, "FromTeacher": impl.FromTeacher, "GivenTo": impl.GivenTo, "CandyTrace": impl.CandyTrace, "SpreadTrace": impl.SpreadTrace, "FirstLevel": impl.FirstLevel, "TurnCircle": impl.TurnCircle, "MirrorCircle": impl.MirrorCircle, "PassLeft": impl.PassLeft, "SlowestCircle": impl.SlowestCircle, "CountByRest": impl.CountByRest,
		"AreChips": impl.AreChips, "CanFire": impl.CanFire, "FireAt": impl.FireAt, "FireAll": impl.FireAll, "RestOfChips": impl.RestOfChips, "FiringsOf": impl.FiringsOf, "LostChips": impl.LostChips, "RoundsToRest": impl.RoundsToRest, "FireInOrder": impl.FireInOrder, "AddChip": impl.AddChip, "ClassOfChips": impl.ClassOfChips, "AreSameClass": impl.AreSameClass, "DoComeAgain": impl.DoComeAgain, "ComingChips": impl.ComingChips, "AddComing": impl.AddComing, "NeutralChips": impl.NeutralChips, "MirrorChips": impl.MirrorChips, "ChipsText": impl.ChipsText, "ParseChips": impl.ParseChips,
		"AreCups": impl.AreCups, "CupsOf": impl.CupsOf, "ContentOf": impl.ContentOf, "MixTwo": impl.MixTwo, "PlayMixes": impl.PlayMixes, "MeanOfCups": impl.MeanOfCups, "SpreadOfCups": impl.SpreadOfCups, "AreAlike": impl.AreAlike, "GreatestIn": impl.GreatestIn, "LeastIn": impl.LeastIn, "FirstGreatest": impl.FirstGreatest, "FewestToAlike": impl.FewestToAlike, "FirstToAlike": impl.FirstToAlike, "CountMixed": impl.CountMixed, "DoubleCups": impl.DoubleCups, "IdleMixes": impl.IdleMixes, "CupsText": impl.CupsText, "ParseCups": impl.ParseCups,
		"AreJobs": impl.AreJobs, "IsLoadPlan": impl.IsLoadPlan, "LoadsOf": impl.LoadsOf, "EndOfPlan": impl.EndOfPlan, "IdleOfPlan": impl.IdleOfPlan, "PlanInOrder": impl.PlanInOrder, "PlanLongestFirst": impl.PlanLongestFirst, "LeastEnd": impl.LeastEnd, "FirstBestPlan": impl.FirstBestPlan, "CountBestPlans": impl.CountBestPlans, "EndBound": impl.EndBound, "MachinesFor": impl.MachinesFor, "BestMove": impl.BestMove, "IsSettledPlan": impl.IsSettledPlan, "SettlePlan": impl.SettlePlan, "LeastSumOfEnds": impl.LeastSumOfEnds, "SumOfEnds": impl.SumOfEnds, "PlanText": impl.PlanText, "ParsePlan": impl.ParsePlan,
		"IsRing": impl.IsRing, "RingStep": impl.RingStep, "RingAfter": impl.RingAfter, "LeadOfRing": impl.LeadOfRing, "PeriodOfRing": impl.PeriodOfRing, "CycleOfRing": impl.CycleOfRing, "ComesToZero": impl.ComesToZero, "StepsToZero": impl.StepsToZero, "GreatestAtLast": impl.GreatestAtLast, "RingsBefore": impl.RingsBefore, "CountRingsBefore": impl.CountRingsBefore, "HasRingBefore": impl.HasRingBefore, "LiftRing": impl.LiftRing, "ScaleRing": impl.ScaleRing, "MirrorRing": impl.MirrorRing, "TurnRing": impl.TurnRing, "LongestPeriod": impl.LongestPeriod, "CountCycling": impl.CountCycling, "SlowestToZero": impl.SlowestToZero,
		"AreSplitHeaps": impl.AreSplitHeaps, "SplitsOf": impl.SplitsOf, "MakeSplit": impl.MakeSplit, "IsSplitOver": impl.IsSplitOver, "ValueOfSplit": impl.ValueOfSplit, "ValueOfHeaps": impl.ValueOfHeaps, "DoesFirstWin": impl.DoesFirstWin, "WinningSplits": impl.WinningSplits, "LosingHeaps": impl.LosingHeaps, "PlaySplits": impl.PlaySplits, "BestPlay": impl.BestPlay, "LongestSplit": impl.LongestSplit, "ShortestSplit": impl.ShortestSplit, "CountSplitGames": impl.CountSplitGames, "ScoreOfSplits": impl.ScoreOfSplits, "FullScore": impl.FullScore, "EndsOfSplit": impl.EndsOfSplit, "SplitsText": impl.SplitsText, "ParseSplits": impl.ParseSplits,
		"IsClue": impl.IsClue, "IsPuzzle": impl.IsPuzzle, "DoesFit": impl.DoesFit, "Solutions": impl.Solutions, "CountSolutions": impl.CountSolutions, "FirstSolution": impl.FirstSolution, "SureHeaps": impl.SureHeaps, "IsSolved": impl.IsSolved, "NeedlessClues": impl.NeedlessClues, "DropClue": impl.DropClue, "AddClue": impl.AddClue, "LeftByClues": impl.LeftByClues, "BestClue": impl.BestClue, "HarderPuzzle": impl.HarderPuzzle, "MakePuzzle": impl.MakePuzzle, "PuzzleText": impl.PuzzleText, "ParsePuzzle": impl.ParsePuzzle,
		"FirstDesk": impl.FirstDesk, "IsDesk": impl.IsDesk, "DeskLine": impl.DeskLine, "RunScript": impl.RunScript, "DeskAfter": impl.DeskAfter, "FailedLines": impl.FailedLines,
	}
}

func TestAllFunctionsAreHere(t *testing.T) {
	functions := allFunctions()
	files, err := filepath.Glob("../impl/*.go")
	if err != nil || len(files) != 10 {
		t.Fatal("the files are", files, err)
	}
	for _, name := range files {
		f, err := parser.ParseFile(token.NewFileSet(), name, nil, parser.SkipObjectResolution)
		if err != nil {
			t.Fatal(err)
		}
		for _, d := range f.Decls {
			if d, ok := d.(*ast.FuncDecl); ok && d.Recv == nil && d.Name.IsExported() {
				if functions[d.Name.Name] == nil {
					t.Error(d.Name.Name, "is not among all functions")
				}
			}
		}
	}
}

// An argumentMaker makes arguments of any type. Tame ones have small numbers alone, so that they are often valid; others
// have limits and wild numbers among these.
type argumentMaker struct {
	next func(below int) int
	tame bool
}

func (m argumentMaker) number() int {
	limits := []int{8, 9, 10, 11, 12, 13, 14, 15, 20, 21, 40, 41, 50, 51, 60, 61, 100, 101, 200, 201, 1000, 1001, 9999, 10000, 10001, 100000, 1000000, 1000001, 1000000000, 1000000001, 1 << 20, 1 << 21}
	if m.tame {
		return m.next(5)
	}
	switch m.next(6) {
	case 0:
		return wildNumbers[m.next(len(wildNumbers))]
	case 1, 2:
		return limits[m.next(len(limits))]
	}
	return m.next(15)
}

func (m argumentMaker) size() int {
	if m.tame || m.next(10) > 0 {
		return m.next(6)
	}
	return m.next(120)
}

func (m argumentMaker) text() string {
	texts := []string{"", "5-1-0", "10-01-21", "0.3.0", "3-0-0/1", "3-6-3/4", "0110", "0:2,0:1", "2h0.0.0.9,1.0.1.1", "3h", "sum\npass\nfly\n", "heaps 7-7\nmove 0 1 9\n", "pass", "move 0 2 2", "mix 3-0-0/1 0 1", "level 1000000 0", "-1", "01", "9223372036854775808", " ", "\n", "\x00\xff", strings.Repeat("1-", 3000), strings.Repeat("\n", 51), strings.Repeat("0", 3001)}
	text := texts[m.next(len(texts))]
	if m.tame {
		return text
	}
	k := m.next(len(text) + 1)
	return text[:k] + string(rune(m.next(300))) + text[k:]
}

func (m argumentMaker) argument(of reflect.Type) reflect.Value {
	v := reflect.New(of).Elem()
	switch of.Kind() {
	case reflect.Int:
		v.SetInt(int64(m.number()))
	case reflect.String:
		v.SetString(m.text())
	case reflect.Struct:
		for k := range of.NumField() {
			v.Field(k).Set(m.argument(of.Field(k).Type))
		}
	case reflect.Slice:
		v.Set(m.list(of))
	}
	return v
}

// list has room behind it, with more of the same.
func (m argumentMaker) list(of reflect.Type) reflect.Value {
	size := m.size()
	all := reflect.MakeSlice(of, size+4, size+4)
	for k := range all.Len() {
		all.Index(k).Set(m.argument(of.Elem()))
	}
	return all.Slice(0, size)
}

// whole copies arguments together with what is behind their lists.
func whole(arguments []reflect.Value) []any {
	var list []any
	for _, v := range arguments {
		list = append(list, wholeValue(v).Interface())
	}
	return list
}

func wholeValue(v reflect.Value) reflect.Value {
	c := reflect.New(v.Type()).Elem()
	switch v.Kind() {
	case reflect.Struct:
		for k := range v.NumField() {
			c.Field(k).Set(wholeValue(v.Field(k)))
		}
	case reflect.Slice:
		v = v.Slice(0, v.Cap())
		for k := range v.Len() {
			c = reflect.Append(c, wholeValue(v.Index(k)))
		}
	default:
		c.Set(v)
	}
	return c
}

// results calls a function. That it panics is an error, and then there are none.
func results(t *testing.T, what string, function reflect.Value, arguments []reflect.Value) (list []any) {
	defer func() {
		if raised := recover(); raised != nil {
			t.Errorf("%s panics: %v", what, raised)
			list = nil
		}
	}()
	for _, r := range function.Call(arguments) {
		list = append(list, r.Interface())
	}
	return list
}

// checkCall calls twice, and overwrites the first results: neither the arguments nor the second results may show it.
func checkCall(t *testing.T, name string, function reflect.Value, arguments []reflect.Value) {
	t.Helper()
	before := whole(arguments)
	what := fmt.Sprintf("%s of %.200s", name, fmt.Sprint(before))
	first := results(t, what, function, arguments)
	want := copied(first)
	if len(want) > 1 && want[len(want)-1] == false {
		wantZero(t, what, want)
	}
	second := results(t, what, function, arguments)
	spoil(first)
	wantSame(t, what+" again, the first results overwritten", second, want...)
	if after := whole(arguments); !reflect.DeepEqual(before, after) {
		t.Errorf("%s: the arguments with what is behind them became %v", what, after)
	}
}

func TestAllFunctionsWithAllArguments(t *testing.T) {
	m := argumentMaker{next: random(2026)}
	functions := allFunctions()
	for _, name := range slices.Sorted(maps.Keys(functions)) {
		function := reflect.ValueOf(functions[name])
		for k := range 400 {
			m.tame = k%2 == 0
			var arguments []reflect.Value
			for n := range function.Type().NumIn() {
				arguments = append(arguments, m.argument(function.Type().In(n)))
			}
			checkCall(t, name, function, arguments)
		}
	}
}
