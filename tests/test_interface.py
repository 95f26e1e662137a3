"""The interface: the functions with their arguments by name, and a package that imports, reads and prints nothing."""

import ast
import contextlib
import inspect
import io
import pathlib
import unittest

from picturestack import pictures

PACKAGE = pathlib.Path(pictures.__file__).parent
ARGUMENTS = {
    "sm_place": ["a", "b", "c", "d", "u1", "v1", "w", "h", "f", "bad"],
    "sm_move": ["dx", "dy", "w", "h", "f"],
    "sm_stack": ["n", "least", "q", "x", "cover"],
    "sm_ends": ["n", "x"],
    "sm_drop": ["s", "p", "dx", "dy", "u1", "v1", "w", "h", "f"],
    "sm_finish": ["sums", "much"],
    "sm_level": ["g", "o", "l"],
    "sm_gain": ["a", "b"],
    "sm_less": ["a", "b"],
}


class Interface(unittest.TestCase):
    def test_functions_and_their_arguments(self):
        for name, arguments in ARGUMENTS.items():
            parameters = inspect.signature(getattr(pictures, name)).parameters.values()
            self.assertEqual([parameter.name for parameter in parameters], arguments)
            self.assertTrue(all(parameter.default is parameter.empty for parameter in parameters))

    def test_no_other_calls(self):
        self.assertEqual(sorted(name for name in vars(pictures) if name.startswith("sm_")), sorted(ARGUMENTS))

    def test_nothing_is_imported(self):
        for path in sorted(PACKAGE.glob("*.py")):
            for node in ast.walk(ast.parse(path.read_text(encoding="utf-8"))):
                self.assertNotIsInstance(node, (ast.Import, ast.ImportFrom), path.name)

    def test_nothing_is_printed(self):
        out, err = io.StringIO(), io.StringIO()
        with contextlib.redirect_stdout(out), contextlib.redirect_stderr(err):
            pictures.sm_place(16384, 0, 0, 0, 1, 1, 1, 1, [5], [0])
            pictures.sm_move(0, 0, 1, 1, [5])
            pictures.sm_move(0, 0, 0, 1, [])
            pictures.sm_stack(1, 0, 4, [5], [6])
            pictures.sm_stack(0, 0, 4, [], [])
            pictures.sm_ends(1, [5])
            pictures.sm_ends(0, [])
            pictures.sm_drop(2, 32, 0, 0, 2, 2, 1, 1, [5])
            pictures.sm_drop(0, 32, 0, 0, 2, 2, 1, 1, [5])
            pictures.sm_finish([5], [2])
            pictures.sm_finish([5] * 4097, [2] * 4097)
            pictures.sm_level(4096, 0, [5])
            pictures.sm_level(16777217, 0, [5])
            pictures.sm_gain([5], [2])
            pictures.sm_gain([5] * 4097, [2] * 4097)
            pictures.sm_less([5], [2])
            pictures.sm_less([5] * 4097, [2] * 4097)
        self.assertEqual(out.getvalue() + err.getvalue(), "")


class Form(unittest.TestCase):
    def test_size_and_signs(self):
        for path in sorted(PACKAGE.glob("*.py")):
            text = path.read_text(encoding="utf-8")
            rows = text.split("\n")
            self.assertLessEqual(len(rows), 400, path.name)
            self.assertLessEqual(max(len(row) for row in rows), 120, path.name)
            self.assertTrue(all(sign == "\n" or " " <= sign <= "~" for sign in text), path.name)
            for node in ast.walk(ast.parse(text)):
                if isinstance(node, ast.FunctionDef):
                    self.assertLessEqual(node.end_lineno - node.lineno + 1, 40, node.name)


if __name__ == "__main__":
    unittest.main()
