package command_test

import (
	"encoding/hex"
	"testing"

	"ogham/api"
	"ogham/command"
	"ogham/store"
)

// TestReadme holds what README.md shows of the use of the program.
func TestReadme(t *testing.T) {
	s := store.New()
	command.Do(s, api.Command{Kind: api.CmdRegister, Text: "M DEFINITIONS AUTOMATIC TAGS ::= BEGIN A ::= SEQUENCE { a INTEGER (0..7), ... } END"})
	a := command.Do(s, api.Command{Kind: api.CmdEncode, Module: "M", Type: "A", Rule: api.Der, Text: "{ a 5 }"})
	if a.Err != api.OK || hex.EncodeToString(a.Data) != "3003800105" {
		t.Errorf("%+v", a)
	}
}
