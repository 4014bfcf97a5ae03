package table

import (
	"slices"

	"registrar/api"
	"registrar/expr"
	"registrar/lex"
	"registrar/stmt"
)

// columns are the names of a table's columns.
func columns(t api.Table) []string {
	var names []string
	for _, col := range t.Cols {
		names = append(names, col.Name)
	}
	return names
}

// labels are the names of its constraints and its indexes, which share one set of names.
func labels(t api.Table) []string {
	var names []string
	for _, cons := range t.Cons {
		names = append(names, cons.Name)
	}
	for _, index := range t.Idx {
		names = append(names, index.Name)
	}
	return names
}

// uses are the lists of columns that its constraints and its indexes have: Cols, whatever the kind, and those that a Check's expression names.
func uses(t api.Table) [][]string {
	var lists [][]string
	for _, cons := range t.Cons {
		lists = append(lists, cons.Cols)
		if cons.Kind == api.Check {
			lists = append(lists, expr.Names(cons.Check))
		}
	}
	for _, index := range t.Idx {
		lists = append(lists, index.Cols)
	}
	return lists
}

// isNamed asks whether all that has a name of its own has one that may be.
func isNamed(t api.Table) bool {
	for _, name := range slices.Concat([]string{t.Name, t.Owner}, columns(t), labels(t)) {
		if !lex.IsName(name) {
			return false
		}
	}
	return true
}

// isNumbered asks whether the version, types and kinds are such as there are.
func isNumbered(t api.Table) bool {
	for _, col := range t.Cols {
		if stmt.Type(col.Type) == "" {
			return false
		}
	}
	for _, cons := range t.Cons {
		if cons.Kind < api.Unique || cons.Kind > api.Foreign {
			return false
		}
	}
	return t.Version >= 0
}

// isCounted asks whether there are as many of all as there may be.
func isCounted(t api.Table) bool {
	for _, cons := range t.Cons {
		if cons.Kind != api.Check && !isKey(cons.Cols) || cons.Kind == api.Foreign && !isKey(cons.Refs) {
			return false
		}
	}
	for _, index := range t.Idx {
		if !isKey(index.Cols) {
			return false
		}
	}
	return len(t.Cols) >= 1 && len(t.Cols) <= api.MaxCols && len(t.Cons) <= api.MaxCons && len(t.Idx) <= api.MaxIdx
}

// isKey asks whether a list has as many names as a key may have.
func isKey(names []string) bool {
	return len(names) >= 1 && len(names) <= api.MaxKey
}

// isUnlike asks whether no name stands twice where it may stand only once. What an expression names is there once anyhow.
func isUnlike(t api.Table) bool {
	lists := append(uses(t), columns(t), labels(t))
	for _, cons := range t.Cons {
		lists = append(lists, cons.Refs)
	}
	return !slices.ContainsFunc(lists, repeats)
}

// repeats asks whether a name stands in a list twice.
func repeats(names []string) bool {
	seen := map[string]struct{}{}
	for _, name := range names {
		if _, twice := seen[name]; twice {
			return true
		}
		seen[name] = struct{}{}
	}
	return false
}

// isThere asks whether all columns that constraints and indexes have are the table's.
func isThere(t api.Table) bool {
	for _, names := range uses(t) {
		if _, err := Places(t, names); err != api.OK {
			return false
		}
	}
	return true
}

// isDeep asks whether a constraint is a Check of an expression that is too high.
func isDeep(cons api.Cons) bool {
	return cons.Kind == api.Check && expr.Check(cons.Check, false) == api.ErrDeep
}

// isWrong asks whether a constraint of a kind that there is has what that kind has not, or what may not be there.
func isWrong(cons api.Cons) bool {
	hasCheck := !expr.Same(cons.Check, api.Expr{})
	hasOther := cons.Table != "" || len(cons.Refs) > 0
	switch cons.Kind {
	case api.Unique:
		return hasCheck || hasOther
	case api.Check:
		return expr.Check(cons.Check, false) != api.OK || expr.Params(cons.Check) > 0 || len(cons.Cols) > 0 || hasOther
	}
	return hasCheck || !lex.IsName(cons.Table) || len(cons.Refs) != len(cons.Cols)
}
