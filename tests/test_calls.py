"""Point 11: rows of meetings."""

import unittest
from itertools import permutations

from gossipcount.calls import calls
from gossipcount.room import Room
from tests.samples import mixed, names_of


def length_of(many):
    """How many meetings a row for so many names has."""
    return {0: 0, 1: 0, 2: 1, 3: 3}.get(many, 2 * many - 4)


def known(names, row):
    """Whom each one knows of behind the row, if each knew of itself alone ahead of it."""
    heard = {name: {name} for name in names}
    for one, other in row:
        heard[one] = heard[other] = heard[one] | heard[other]
    return heard


class RowsOfMeetings(unittest.TestCase):
    def assert_all_know_all(self, names):
        row = calls(list(names))
        self.assertEqual(len(row), length_of(len(names)))
        for heard in known(names, row).values():
            self.assertEqual(heard, set(names))

    def test_how_many_meetings(self):
        for many, told in ((0, 0), (1, 0), (2, 1), (3, 3), (4, 4), (5, 6), (6, 8), (7, 10), (10, 16), (100, 196), (200, 396)):
            with self.subTest(many=many):
                self.assertEqual(len(calls(names_of(many))), told)

    def test_everybody_comes_to_know_all(self):
        for many in list(range(41)) + [100, 199, 200, 201, 250]:
            with self.subTest(many=many):
                self.assert_all_know_all(names_of(many))

    def test_in_whatever_order_the_names_are_told(self):
        for many in range(7):
            for names in permutations(names_of(many)):
                self.assert_all_know_all(names)
        for seed in range(10):
            self.assert_all_know_all(mixed(names_of(50), seed))

    def test_one_name_and_two_names(self):
        self.assertEqual(calls([]), [])
        self.assertEqual(calls(["anna"]), [])
        self.assertIn(calls(["anna", "ben"]), ([("anna", "ben")], [("ben", "anna")]))

    def test_a_list_of_pairs_of_two_different_names(self):
        for many in range(12):
            names = names_of(many)
            row = calls(names)
            self.assertIs(type(row), list)
            for pair in row:
                self.assertIs(type(pair), tuple)
                self.assertEqual(len(pair), 2)
                self.assertNotEqual(pair[0], pair[1])
                self.assertIn(pair[0], names)
                self.assertIn(pair[1], names)

    def test_each_call_tells_a_new_list(self):
        for many in range(8):
            names = names_of(many)
            told = calls(names)
            before = list(told)
            self.assertIsNot(told, calls(names))
            self.assertIsNot(told, names)
            told.append(("odd", "odd"))
            told.reverse()
            self.assertEqual(calls(names), before)

    def test_the_names_are_neither_changed_nor_kept(self):
        for many in range(8):
            names = names_of(many)
            told = calls(names)
            before = list(told)
            self.assertEqual(names, names_of(many))
            names.clear()
            self.assertEqual(told, before)
            self.assertEqual(calls(names_of(many)), before)


class InARoom(unittest.TestCase):
    def test_every_hand_knows_all_that_any_knew_ahead(self):
        for many in list(range(1, 15)) + [60, 200]:
            with self.subTest(many=many):
                names = mixed(names_of(many), many)
                room = Room(names)
                for at, name in enumerate(names):
                    room.hand(name).up(at + 1)
                    if at % 2:
                        room.hand(name).down(3 * at)
                page = {}
                for name in names:
                    page.update(room.hand(name).page())
                for one, other in calls(names):
                    room.meet(one, other)
                self.assertIs(room.settled(), True)
                for name in names:
                    self.assertEqual(room.hand(name).page(), page)
                    self.assertEqual(list(room.hand(name).page()), sorted(page))

    def test_also_of_what_one_alone_had_heard_from_outside(self):
        for many in range(1, 9):
            names = names_of(many)
            for knowing in names:
                with self.subTest(many=many, knowing=knowing):
                    room = Room(names)
                    room.hand(knowing).hear({"x": (3, 1), "y": (0, 7)})
                    for one, other in calls(names):
                        room.meet(one, other)
                    for name in names:
                        self.assertEqual(room.hand(name).page(), {"x": (3, 1), "y": (0, 7)})
                    self.assertIs(room.settled(), True)

    def test_a_room_without_hands(self):
        self.assertEqual(calls([]), [])
        self.assertIs(Room([]).settled(), True)


if __name__ == "__main__":
    unittest.main()
