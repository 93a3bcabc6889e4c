// Package style holds the program's files against ../../shared/LANGUAGE.md, and against the map of ../../shared/DOC.md, as far as a test can tell. It has nothing but this test.
package style

import (
	"bytes"
	"go/ast"
	"go/format"
	"go/parser"
	"go/token"
	"os"
	"path/filepath"
	"slices"
	"strconv"
	"strings"
	"testing"
)

const maxLines = 60

// calls is the map's column "it calls"; every layer may call api, and fresh, which is no layer.
var calls = map[string]string{
	"api":     "",
	"fresh":   "",
	"value":   "",
	"lex":     "",
	"parse":   "value lex",
	"bind":    "value parse",
	"algebra": "value bind",
	"place":   "value",
	"plan":    "value bind place",
	"exec":    "value bind algebra place plan",
	"wire":    "value",
	"disk":    "",
	"files":   "wire disk",
	"rpc":     "wire",
	"stream":  "wire",
	"net":     "",
	"lease":   "",
	"worker":  "bind exec wire disk files rpc stream",
	"publish": "value place wire",
	"coord":   "value parse bind place plan exec wire disk files stream lease publish",
	"world":   "place wire disk net lease worker coord",
	"front":   "value lex world",
}

var library = strings.Fields("bytes cmp container/heap errors iter maps math math/bits slices sort strconv strings sync sync/atomic unicode unicode/utf8")

// programFiles are the Go files of the layers, but for their tests.
func programFiles(t *testing.T) []string {
	var files []string
	for layer := range calls {
		l, err := filepath.Glob(filepath.Join("..", layer, "*"))
		if err != nil || len(l) == 0 {
			t.Fatal("no files of package", layer, err)
		}
		for _, f := range l {
			if strings.HasSuffix(f, "_test.go") {
				continue
			}
			if filepath.Ext(f) != ".go" {
				t.Errorf("%s is no Go file", f)
				continue
			}
			files = append(files, f)
		}
	}
	slices.Sort(files)
	return files
}

func mayImport(layer, path string) bool {
	own, ok := strings.CutPrefix(path, "potsherd/")
	if !ok {
		return slices.Contains(library, path)
	}
	if own == "api" || own == "fresh" && layer != "api" {
		return layer != own
	}
	return slices.Contains(strings.Fields(calls[layer]), own)
}

func TestFiles(t *testing.T) {
	for _, name := range programFiles(t) {
		text, err := os.ReadFile(name)
		if err != nil {
			t.Fatal(err)
		}
		if laid, err := format.Source(text); err != nil || !bytes.Equal(laid, text) {
			t.Errorf("%s is not in gofmt's layout (%v)", name, err)
		}
		if bytes.Contains(text, []byte("//go:")) || bytes.Contains(text, []byte("// +build")) {
			t.Errorf("%s has a line for the compiler", name)
		}
		places := token.NewFileSet()
		file, err := parser.ParseFile(places, name, text, 0)
		if err != nil {
			t.Fatal(err)
		}
		checkImports(t, name, file)
		checkLengths(t, name, file, places)
	}
}

func checkImports(t *testing.T, name string, file *ast.File) {
	layer := filepath.Base(filepath.Dir(name))
	if file.Name.Name != layer {
		t.Errorf("%s is of package %s", name, file.Name.Name)
	}
	for _, i := range file.Imports {
		path, err := strconv.Unquote(i.Path.Value)
		if err != nil || !mayImport(layer, path) {
			t.Errorf("%s may not import %s", name, i.Path.Value)
		}
	}
}

func checkLengths(t *testing.T, name string, file *ast.File, places *token.FileSet) {
	for _, d := range file.Decls {
		f, ok := d.(*ast.FuncDecl)
		if !ok {
			continue
		}
		if n := places.Position(f.End()).Line - places.Position(f.Pos()).Line + 1; n > maxLines {
			t.Errorf("%s: %s has %d lines", name, f.Name.Name, n)
		}
	}
}
