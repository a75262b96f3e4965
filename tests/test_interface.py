"""The form of the package, and the names that the interface lists."""

import importlib
import inspect
import os
import unittest

import gossipcount

FOLDER = os.path.dirname(os.path.abspath(gossipcount.__file__))
CLASSES = {
    "errors": ("GossipError", "NoName", "NoAmount", "NoPage", "Forged", "NoNote"),
    "hands": ("Hand",),
    "room": ("Room",),
}
FUNCTIONS = {
    "shares": {"greater": ["one", "other"], "reaches": ["one", "other"], "net": ["share"]},
    "names": {"is_name": ["thing"], "is_amount": ["thing"]},
    "pages": {
        "is_page": ["thing"], "share_of": ["page", "name"], "joined": ["one", "other"],
        "knows": ["one", "other"], "lacking": ["one", "other"], "total": ["page"],
    },
    "calls": {"calls": ["names"]},
    "notes": {"written": ["page"], "read": ["text"]},
}
METHODS = {
    ("hands", "Hand"): {
        "__init__": ["self", "name"], "up": ["self", "many"], "down": ["self", "many"], "page": ["self"], "told": ["self"],
        "letter": ["self", "page"], "trusts": ["self", "page"], "hear": ["self", "page"],
    },
    ("room", "Room"): {
        "__init__": ["self", "names"], "hand": ["self", "name"], "meet": ["self", "one", "other"], "settled": ["self"],
    },
}


class TheInterface(unittest.TestCase):
    def test_each_class_is_defined_in_its_file(self):
        for file, names in CLASSES.items():
            module = importlib.import_module("gossipcount." + file)
            for name in names:
                with self.subTest(name=name):
                    self.assertTrue(inspect.isclass(getattr(module, name)))
                    self.assertEqual(getattr(module, name).__module__, "gossipcount." + file)

    def test_each_function_is_defined_in_its_file_with_its_arguments(self):
        for file, functions in FUNCTIONS.items():
            module = importlib.import_module("gossipcount." + file)
            for name, arguments in functions.items():
                with self.subTest(name=name):
                    function = getattr(module, name)
                    self.assertTrue(inspect.isfunction(function))
                    self.assertEqual(function.__module__, "gossipcount." + file)
                    self.assertEqual(list(inspect.signature(function).parameters), arguments)

    def test_each_method_is_defined_in_its_class_with_its_arguments(self):
        for (file, holder), methods in METHODS.items():
            module = importlib.import_module("gossipcount." + file)
            for name, arguments in methods.items():
                with self.subTest(holder=holder, name=name):
                    method = vars(getattr(module, holder))[name]
                    self.assertTrue(inspect.isfunction(method))
                    self.assertEqual(list(inspect.signature(method).parameters), arguments)

    def test_the_folder_holds_python_files_alone(self):
        found = [file for file in os.listdir(FOLDER) if file != "__pycache__"]
        self.assertIn("__init__.py", found)
        self.assertEqual([file for file in found if not file.endswith(".py")], [])

    def test_the_form_that_a_look_at_the_rows_tells(self):
        for file in sorted(os.listdir(FOLDER)):
            if not file.endswith(".py"):
                continue
            with self.subTest(file=file), open(os.path.join(FOLDER, file), "rb") as held:
                data = held.read()
                rows = data.decode("ascii").splitlines()
                self.assertTrue(all(byte == 10 or 32 <= byte < 127 for byte in data))
                self.assertLessEqual(len(rows), 399)
                self.assertLessEqual(max(map(len, rows), default=0), 120)


if __name__ == "__main__":
    unittest.main()
