package sql

import "relstore/api"

// createTable, behind these words.
func (p *parser) createTable() api.Stmt {
	s := api.Stmt{Kind: api.CreateTable, Table: p.name()}
	for _, x := range enclosed(p, p.elements) {
		s.Columns = append(s.Columns, x.Columns...)
		s.Keys = append(s.Keys, x.Keys...)
		s.Checks = append(s.Checks, x.Checks...)
	}
	return s
}

func (p *parser) elements() []api.Stmt { return list(p, p.element) }

// element of a table: a column or a rule, each with what it adds to the statement.
func (p *parser) element() api.Stmt {
	switch {
	case p.is("primary"), p.is("unique"):
		k := p.key()
		k.Columns = enclosed(p, p.names)
		return api.Stmt{Keys: []api.Key{k}}
	case p.is("check"):
		return api.Stmt{Checks: []api.Expr{p.check()}}
	}
	return p.column()
}

// column with its own keys and checks.
func (p *parser) column() api.Stmt {
	var s api.Stmt
	c := api.ColumnDef{Name: p.name()}
	c.Kind = p.kind()
	for {
		switch {
		case p.takes("not"):
			p.must("null")
			c.NotNull = true
		case p.takes("default"):
			c.Default = []api.Value{p.constant()}
		case p.is("primary"), p.is("unique"):
			k := p.key()
			k.Columns = []string{c.Name}
			s.Keys = append(s.Keys, k)
		case p.is("check"):
			s.Checks = append(s.Checks, p.check())
		default:
			s.Columns = []api.ColumnDef{c}
			return s
		}
	}
}

// key, without its columns.
func (p *parser) key() api.Key {
	if p.takes("unique") {
		return api.Key{}
	}
	p.must("primary", "key")
	return api.Key{Primary: true}
}

func (p *parser) check() api.Expr {
	p.must("check")
	return enclosed(p, p.expr)
}

// kind of a column, or of what is cast.
func (p *parser) kind() int {
	for _, kind := range [...]int{api.Bool, api.Int, api.Text} {
		if p.takes(kindWord(kind)) {
			return kind
		}
	}
	panic(p.wrong())
}

func kindWord(kind int) string {
	switch kind {
	case api.Bool:
		return "boolean"
	case api.Int:
		return "integer"
	case api.Text:
		return "text"
	}
	return ""
}

// constant of a default: unlike the numbers of expressions it may be below 0.
func (p *parser) constant() api.Value {
	if p.takes("-") {
		return api.Value{Kind: api.Int, N: -p.number()}
	}
	return p.literal()
}

// literal: a value that is written out.
func (p *parser) literal() api.Value {
	switch {
	case p.next.kind == aNumber:
		return api.Value{Kind: api.Int, N: p.take().number}
	case p.next.kind == aText:
		return api.Value{Kind: api.Text, S: p.take().text}
	case p.takes("true"):
		return api.Value{Kind: api.Bool, N: 1}
	case p.takes("false"):
		return api.Value{Kind: api.Bool}
	case p.takes("null"):
		return api.Value{}
	}
	panic(p.wrong())
}
