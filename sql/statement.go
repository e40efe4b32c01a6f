package sql

import "relstore/api"

// reader of a statement that begins with a word.
type reader struct {
	word string
	read func(p *parser) api.Stmt
}

// readers of all statements.
func readers() []reader {
	return []reader{
		{"select", (*parser).ask},
		{"insert", (*parser).insert},
		{"update", (*parser).update},
		{"delete", (*parser).delete},
		{"create", (*parser).create},
		{"drop", (*parser).drop},
		{"begin", (*parser).begin},
		{"commit", (*parser).commit},
		{"rollback", (*parser).rollback},
		{"savepoint", (*parser).savepoint},
		{"release", (*parser).release},
		{"checkpoint", (*parser).checkpoint},
	}
}

// script: statements with semicolons between, and perhaps one at the end.
func (p *parser) script() []api.Stmt {
	var l []api.Stmt
	for p.next.kind != anEnd {
		l = append(l, p.statement())
		if p.next.kind != anEnd {
			p.must(";")
		}
	}
	return l
}

func (p *parser) statement() api.Stmt {
	for _, r := range readers() {
		if p.is(r.word) {
			return r.read(p)
		}
	}
	panic(p.wrong())
}

func (p *parser) ask() api.Stmt {
	return api.Stmt{Kind: api.Query, Query: []api.Select{p.query()}}
}

func (p *parser) insert() api.Stmt {
	p.must("insert", "into")
	s := api.Stmt{Kind: api.Insert, Table: p.name()}
	if p.is("(") {
		s.Names = enclosed(p, p.names)
	}
	if p.takes("values") {
		s.Rows = list(p, p.row)
	} else {
		s.Query = []api.Select{p.query()}
	}
	return s
}

func (p *parser) row() []api.Expr { return enclosed(p, p.exprs) }

func (p *parser) update() api.Stmt {
	p.must("update")
	s := api.Stmt{Kind: api.Update, Table: p.name()}
	p.must("set")
	s.Sets = list(p, p.set)
	s.Where = p.clause("where")
	return s
}

func (p *parser) set() api.Set {
	column := p.name()
	p.must("=")
	return api.Set{Column: column, Expr: p.expr()}
}

func (p *parser) delete() api.Stmt {
	p.must("delete", "from")
	s := api.Stmt{Kind: api.Delete, Table: p.name()}
	s.Where = p.clause("where")
	return s
}

func (p *parser) create() api.Stmt {
	p.must("create")
	if p.takes("table") {
		return p.createTable()
	}
	s := api.Stmt{Kind: api.CreateIndex, Unique: p.takes("unique")}
	p.must("index")
	s.Name = p.name()
	p.must("on")
	s.Table = p.name()
	s.Names = enclosed(p, p.names)
	return s
}

func (p *parser) drop() api.Stmt {
	p.must("drop")
	if p.takes("table") {
		return api.Stmt{Kind: api.DropTable, Table: p.name()}
	}
	p.must("index")
	return api.Stmt{Kind: api.DropIndex, Name: p.name()}
}

func (p *parser) begin() api.Stmt {
	p.must("begin")
	return api.Stmt{Kind: api.Begin}
}

func (p *parser) commit() api.Stmt {
	p.must("commit")
	return api.Stmt{Kind: api.Commit}
}

func (p *parser) rollback() api.Stmt {
	p.must("rollback")
	s := api.Stmt{Kind: api.Rollback}
	if p.takes("to") {
		s.Name = p.name()
	}
	return s
}

func (p *parser) savepoint() api.Stmt {
	p.must("savepoint")
	return api.Stmt{Kind: api.Savepoint, Name: p.name()}
}

func (p *parser) release() api.Stmt {
	p.must("release")
	return api.Stmt{Kind: api.Release, Name: p.name()}
}

func (p *parser) checkpoint() api.Stmt {
	p.must("checkpoint")
	return api.Stmt{Kind: api.Checkpoint}
}
