package policy

import (
	"slices"
	"strings"

	"identity/api"
	"identity/codec"
)

// The words of the text form.
const (
	ruleWord   = "rule"
	permitWord = "permit"
	denyWord   = "deny"
	ifWord     = "if"
	andWord    = "and"
	scopesWord = "scopes"
	levelWord  = "level"
	ageWord    = "age"
)

// endsScopes reports whether a word ends the scopes of a line, so that it
// cannot be one of them.
func endsScopes(word string) bool {
	return word == levelWord || word == ageWord
}

// Text returns the text form of a policy.
func Text(l []api.PolicyRule) (string, api.Errno) {
	if e := Check(l); e != api.OK {
		return "", e
	}
	var b strings.Builder
	for _, p := range l {
		b.WriteString(strings.Join(ruleWords(p), " ") + "\n")
	}
	if b.Len() > api.MaxText {
		return "", api.ErrLimit
	}
	return b.String(), api.OK
}

// ruleWords returns the words of the line of a rule that has no error.
func ruleWords(p api.PolicyRule) []string {
	effect := permitWord
	if p.Deny {
		effect = denyWord
	}
	words := []string{ruleWord, p.Name, effect}
	before := ifWord
	for _, c := range p.Conditions {
		words = append(words, before, c.Field, c.Op, codec.Escape(c.Value))
		before = andWord
	}
	if len(p.Scopes) > 0 {
		words = append(words, scopesWord)
		words = append(words, p.Scopes...)
	}
	if p.Level != 0 {
		words = append(words, levelWord, codec.Int(p.Level))
	}
	if p.MaxAge != 0 {
		words = append(words, ageWord, codec.Int(p.MaxAge))
	}
	return words
}

// Parse returns the policy with a text form, or the line with the first error.
func Parse(s string) ([]api.PolicyRule, int, api.Errno) {
	if len(s) > api.MaxText {
		return nil, 0, api.ErrLimit
	}
	var l []api.PolicyRule
	for n := 1; s != ""; n++ {
		line, rest, ended := strings.Cut(s, "\n")
		p, possible := readRule(line)
		if !ended || !possible {
			return nil, n, api.ErrForm
		}
		l = append(l, p)
		if e := Check(l); e != api.OK {
			return nil, n, e
		}
		s = rest
	}
	return l, 0, api.OK
}

// readRule returns the rule of a line, and whether the line is possible.
func readRule(line string) (api.PolicyRule, bool) {
	words := strings.Split(line, " ")
	if slices.Contains(words, "") {
		return api.PolicyRule{}, false
	}
	r := reader{rest: words}
	p := r.rule()
	if r.failed || len(r.rest) > 0 {
		return api.PolicyRule{}, false
	}
	return p, true
}

// reader reads the words of a line. It has failed if a part of the line was not
// possible; what it returned then has no meaning.
type reader struct {
	rest   []string
	failed bool
}

// next returns the word that comes next without reading it, or an empty string
// if there is none.
func (r *reader) next() string {
	if len(r.rest) == 0 {
		return ""
	}
	return r.rest[0]
}

// word reads any word, and fails if there is none.
func (r *reader) word() string {
	w := r.next()
	if w == "" {
		r.failed = true
		return ""
	}
	r.rest = r.rest[1:]
	return w
}

// take reads a word if it comes next, and reports whether it does.
func (r *reader) take(word string) bool {
	if r.next() != word {
		return false
	}
	r.rest = r.rest[1:]
	return true
}

// need fails unless ok.
func (r *reader) need(ok bool) {
	r.failed = r.failed || !ok
}

// rule reads the parts of a rule. Of those after the effect any can be missing:
// the first one that is there determines where the reading begins, and each
// later one is read if it comes next.
func (r *reader) rule() api.PolicyRule {
	r.need(r.take(ruleWord))
	p := api.PolicyRule{Name: r.word(), Deny: r.effect()}
	switch r.next() {
	case ifWord:
		p.Conditions = r.conditions()
		fallthrough
	case scopesWord:
		p.Scopes = r.scopes()
		fallthrough
	case levelWord:
		p.Level = r.number(levelWord)
		fallthrough
	case ageWord:
		p.MaxAge = r.number(ageWord)
	}
	return p
}

// effect reads whether a rule denies.
func (r *reader) effect() bool {
	if r.take(denyWord) {
		return true
	}
	r.need(r.take(permitWord))
	return false
}

// conditions reads conditions.
func (r *reader) conditions() []api.Condition {
	var l []api.Condition
	for before := ifWord; r.take(before); before = andWord {
		l = append(l, api.Condition{Field: r.word(), Op: r.word(), Value: r.value()})
	}
	return l
}

// value reads the value of a condition.
func (r *reader) value() string {
	s, e := codec.Unescape(r.word())
	r.need(e == api.OK)
	return s
}

// scopes reads scopes if they come next.
func (r *reader) scopes() []string {
	if !r.take(scopesWord) {
		return nil
	}
	var l []string
	for len(r.rest) > 0 && !endsScopes(r.next()) {
		l = append(l, r.word())
	}
	r.need(len(l) > 0)
	return l
}

// number reads a number other than 0 if the word before it comes next, and
// otherwise returns 0, for which nothing is written.
func (r *reader) number(before string) int {
	if !r.take(before) {
		return 0
	}
	n, e := codec.ReadInt(r.word())
	r.need(e == api.OK && n != 0)
	return n
}
