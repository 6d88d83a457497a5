package console_test

import (
	"fmt"
	"strings"
)

// seed tells numbers without a pattern, the same ones in each run.
type seed uint64

func (s *seed) next() uint64 {
	*s = *s*6364136223846793005 + 1442695040888963407
	x := uint64(*s)
	return (x ^ x>>29) >> 11
}

func (s *seed) below(n int) int { return int(s.next() % uint64(n)) }

// one of some texts.
func (s *seed) one(l ...string) string { return l[s.below(len(l))] }

// A function's locals: a node, a node or nothing, an array of four references, a number, a count.
const locals = "ref ref ref int int"

// begin sets the first four of them.
const begin = "new node\nstore 0\nnull\nstore 1\nconst 4\nnewrefs\nstore 2\nconst 2\nstore 3\n"

// program: the text of one whose types are right. Of its threads, there are so many that main begins.
func (s *seed) program(more int) string {
	var text strings.Builder
	fmt.Fprintf(&text, "class leaf n:int\nclass node a:ref n:int b:ref\nclass none\nfunc main -> int\nlocals %s\npoll\n%s", locals, begin)
	for range more {
		text.WriteString("load 0\nload 1\nspawn work\nstore 3\n")
		s.some(&text, s.below(3))
	}
	s.loop(&text, more)
	fmt.Fprintf(&text, "load 3\nreturn\nend\nfunc work ref ref -> int\nlocals ref int int\npoll\nconst 4\nnewrefs\nstore 2\nconst 3\nstore 3\n")
	s.loop(&text, 0)
	text.WriteString("load 3\nreturn\nend\nfunc help ref -> ref\nlocals ref\npoll\nnew node\nstore 1\nload 1\nload 0\nput node a\nload 1\nreturn\nend\n")
	return text.String()
}

// loop: statements that are gone through some times, and then what may be a trap, or may wait.
func (s *seed) loop(text *strings.Builder, threads int) {
	fmt.Fprintf(text, "const %d\nstore 4\nmore:\npoll\n", 1+s.below(25))
	s.some(text, 1+s.below(9))
	text.WriteString("load 4\nconst 1\nsub\ndup\nstore 4\njumpif more\n")
	for range s.below(3) {
		text.WriteString(s.one("load 1\nget node n\nstore 3\n", "load 2\nconst 4\nrefat\ndrop\n", "load 3\nload 3\ndiv\nstore 3\n", "load 0\nget leaf n\ndrop\n", "const 300\nnewints\ndrop\n", fmt.Sprintf("const %d\njoin\nout\n", s.below(threads+2)), "load 0\nload 0\nspawn work\ndrop\n"))
	}
}

// some statements, each of which leaves the stack as it was.
func (s *seed) some(text *strings.Builder, n int) {
	for range n {
		global, place, small := s.below(4), s.below(4), s.below(40)
		text.WriteString(s.one(
			"new node\nstore 0\n", "new node\ndup\nload 0\nput node a\nstore 0\n", "new leaf\nstore 1\nnull\nstore 1\n", "null\nstore 1\n",
			fmt.Sprintf("load 0\nsetglobal %d\n", global), fmt.Sprintf("null\nsetglobal %d\n", global), fmt.Sprintf("load 2\nsetglobal %d\n", 4+global), "new none\nsetglobal 7\n", "new leaf\nsetglobal 6\n",
			fmt.Sprintf("new node\ndup\nglobal %d\nput node b\nsetglobal %d\n", global, global), fmt.Sprintf("global %d\nstore 1\n", global),
			"load 0\nload 1\nput node b\n", "load 0\nget node a\nstore 1\n", "load 0\nload 0\nget node a\nload 1\ncas node a\nstore 3\n",
			fmt.Sprintf("load 2\nconst %d\nload 1\nsetref\n", place), fmt.Sprintf("load 2\nconst %d\nnew node\nsetref\n", place), fmt.Sprintf("load 2\nconst %d\nrefat\nstore 1\n", place),
			"const 4\nnewrefs\nstore 2\n", fmt.Sprintf("const %d\nnewints\ndrop\n", small), fmt.Sprintf("const %d\nnewrefs\nsetglobal 4\n", small), fmt.Sprintf("const %d\nnewints\ndup\nconst 0\nconst %d\nsetint\nsetglobal 5\n", 1+small, small-20),
			"load 0\nload 3\nput node n\n", "load 0\nget node n\nconst 1\nadd\nstore 3\n", "load 3\nout\n", "load 3\nneg\nout\n", "load 2\nlen\nout\n", "load 1\nisnull\nout\n",
			"load 0\ncall help\nstore 0\n", "load 1\ncall help\nstore 1\n", "poll\n", "collect\n",
		))
	}
}
