package parse

import (
	"registrar/api"
	"registrar/lex"
)

// stmt reads a statement. Its first key chooses; but what is about roles alone begins as what is about tables does, and there the second one is asked for too.
func (p *parser) stmt() api.Stmt {
	switch p.ahead(0) {
	case "CREATE", "DROP", "GRANT", "REVOKE":
		if p.ahead(1) == "ROLE" {
			return p.ofRole()
		}
		fallthrough
	case "ALTER":
		return p.ofTable()
	case "PREPARE", "EXECUTE", "DEALLOCATE":
		return p.ofPlan()
	}
	return p.ofRows()
}

// ofTable chooses among the kinds that are about tables, as the functions below do among others. None of them passes a word by: what is chosen does so from the first one on, and tells which can't stand.
func (p *parser) ofTable() api.Stmt {
	isIndex := p.ahead(1) == "INDEX"
	switch p.ahead(0) {
	case "CREATE":
		if isIndex {
			return p.createIndex()
		}
		return p.createTable()
	case "DROP":
		if isIndex {
			return p.dropIndex()
		}
		return p.dropTable()
	case "GRANT":
		return p.grantPriv()
	case "REVOKE":
		return p.revokePriv()
	}
	return p.alter()
}

// alter chooses by what stands behind ALTER TABLE and a name.
func (p *parser) alter() api.Stmt {
	isCons := p.ahead(4) == "CONSTRAINT"
	switch p.ahead(3) {
	case "ADD":
		if isCons {
			return p.addCons()
		}
		return p.addColumn()
	case "DROP":
		if isCons {
			return p.dropCons()
		}
		return p.dropColumn()
	}
	return p.rename()
}

func (p *parser) ofRole() api.Stmt {
	switch p.ahead(0) {
	case "CREATE":
		return p.createRole()
	case "DROP":
		return p.dropRole()
	case "GRANT":
		return p.grantRole()
	}
	return p.revokeRole()
}

func (p *parser) ofRows() api.Stmt {
	switch p.ahead(0) {
	case "INSERT":
		return p.insert()
	case "UPDATE":
		return p.update()
	case "DELETE":
		return p.delete()
	}
	return p.selects()
}

func (p *parser) ofPlan() api.Stmt {
	switch p.ahead(0) {
	case "PREPARE":
		return p.prepare()
	case "EXECUTE":
		return p.execute()
	}
	return p.deallocate()
}

// createTable reads a statement of the kind that it is named by, as do the functions below.
func (p *parser) createTable() api.Stmt {
	s := api.Stmt{Kind: api.CreateTable, Table: p.nameBehind("CREATE TABLE")}
	p.must("(")
	s.Cols = []api.Column{p.column()}
	for len(s.Cols) < api.MaxCols && p.columnFollows() {
		p.must(",")
		s.Cols = append(s.Cols, p.column())
	}
	for len(s.Cons) < api.MaxCons && p.constraintFollows() {
		p.must(",")
		s.Cons = append(s.Cons, p.constraint())
	}
	isTooMany := p.constraintFollows() || p.columnFollows() && len(s.Cons) == 0
	if !isTooMany && p.skip(",") {
		panic(p.fault(api.ErrSay))
	}
	p.must(")")
	return s
}

// columnFollows asks for a comma, and what begins a column behind it.
func (p *parser) columnFollows() bool {
	return p.ahead(0) == "," && lex.IsName(p.ahead(1))
}

// constraintFollows asks for a comma, and what begins a constraint behind it.
func (p *parser) constraintFollows() bool {
	return p.ahead(0) == "," && p.ahead(1) == "CONSTRAINT"
}

func (p *parser) dropTable() api.Stmt {
	return api.Stmt{Kind: api.DropTable, Table: p.nameBehind("DROP TABLE")}
}

func (p *parser) addColumn() api.Stmt {
	s := api.Stmt{Kind: api.AddColumn, Table: p.nameBehind("ALTER TABLE")}
	p.must("ADD COLUMN")
	s.Cols = []api.Column{p.column()}
	return s
}

func (p *parser) dropColumn() api.Stmt {
	return api.Stmt{Kind: api.DropColumn, Table: p.nameBehind("ALTER TABLE"), Name: p.nameBehind("DROP COLUMN")}
}

func (p *parser) rename() api.Stmt {
	return api.Stmt{Kind: api.Rename, Table: p.nameBehind("ALTER TABLE"), Name: p.nameBehind("RENAME TO")}
}

func (p *parser) addCons() api.Stmt {
	s := api.Stmt{Kind: api.AddCons, Table: p.nameBehind("ALTER TABLE")}
	p.must("ADD")
	s.Cons = []api.Cons{p.constraint()}
	return s
}

func (p *parser) dropCons() api.Stmt {
	return api.Stmt{Kind: api.DropCons, Table: p.nameBehind("ALTER TABLE"), Name: p.nameBehind("DROP CONSTRAINT")}
}

func (p *parser) createIndex() api.Stmt {
	return api.Stmt{Kind: api.CreateIndex, Name: p.nameBehind("CREATE INDEX"), Table: p.nameBehind("ON"), Names: p.names(api.MaxKey)}
}

func (p *parser) dropIndex() api.Stmt {
	return api.Stmt{Kind: api.DropIndex, Name: p.nameBehind("DROP INDEX"), Table: p.nameBehind("ON")}
}

func (p *parser) createRole() api.Stmt {
	return api.Stmt{Kind: api.CreateRole, Name: p.nameBehind("CREATE ROLE")}
}

func (p *parser) dropRole() api.Stmt {
	return api.Stmt{Kind: api.DropRole, Name: p.nameBehind("DROP ROLE")}
}

func (p *parser) grantRole() api.Stmt {
	return api.Stmt{Kind: api.GrantRole, Name: p.nameBehind("GRANT ROLE"), Role: p.nameBehind("TO")}
}

func (p *parser) revokeRole() api.Stmt {
	return api.Stmt{Kind: api.RevokeRole, Name: p.nameBehind("REVOKE ROLE"), Role: p.nameBehind("FROM")}
}

func (p *parser) grantPriv() api.Stmt {
	p.must("GRANT")
	s := api.Stmt{Kind: api.GrantPriv, Priv: p.priv(), Table: p.nameBehind("ON"), Role: p.nameBehind("TO")}
	if p.skip("WITH") {
		p.must("GRANT OPTION")
		s.Option = true
	}
	return s
}

func (p *parser) revokePriv() api.Stmt {
	p.must("REVOKE")
	return api.Stmt{Kind: api.RevokePriv, Priv: p.priv(), Table: p.nameBehind("ON"), Role: p.nameBehind("FROM")}
}

func (p *parser) insert() api.Stmt {
	s := api.Stmt{Kind: api.Insert, Table: p.nameBehind("INSERT INTO")}
	if p.ahead(0) == "(" {
		s.Names = p.names(api.MaxCols)
	}
	p.must("VALUES")
	s.Rows = list(p, api.MaxInsert, func() []api.Expr {
		return p.row(api.MaxCols)
	})
	return s
}

func (p *parser) update() api.Stmt {
	s := api.Stmt{Kind: api.Update, Table: p.nameBehind("UPDATE")}
	p.must("SET")
	s.Sets = list(p, api.MaxCols, p.set)
	s.Where = p.where()
	return s
}

func (p *parser) delete() api.Stmt {
	return api.Stmt{Kind: api.Delete, Table: p.nameBehind("DELETE FROM"), Where: p.where()}
}

func (p *parser) selects() api.Stmt {
	s := api.Stmt{Kind: api.Select}
	p.must("SELECT")
	if !p.skip("*") {
		s.Rows = [][]api.Expr{list(p, api.MaxCols, p.expr)}
	}
	s.Table = p.nameBehind("FROM")
	s.Where = p.where()
	if p.skip("ORDER") {
		p.must("BY")
		s.Order = list(p, api.MaxKey, p.order)
	}
	s.Limit = p.limit()
	return s
}

func (p *parser) prepare() api.Stmt {
	s := api.Stmt{Kind: api.Prepare, Name: p.nameBehind("PREPARE")}
	p.must("AS")
	s.Kids = []api.Stmt{p.ofRows()}
	return s
}

func (p *parser) execute() api.Stmt {
	s := api.Stmt{Kind: api.Execute, Name: p.nameBehind("EXECUTE")}
	if p.ahead(0) == "(" {
		s.Rows = [][]api.Expr{p.row(api.MaxParams)}
	}
	return s
}

func (p *parser) deallocate() api.Stmt {
	return api.Stmt{Kind: api.Deallocate, Name: p.nameBehind("DEALLOCATE")}
}
