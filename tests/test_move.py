"""Promise 1: sm_move."""

import unittest

from picturestack.pictures import sm_move
from tests.support import assert_plain_answer, assert_ranges, assert_same_twice, pattern, picture_of, word

SIX = [1, 2, 3, 4, 5, 6]


def move(dx, dy, w, h, f):
    """The call with numbers as they are meant."""
    return sm_move(word(dx), word(dy), w, h, f)


def moved_by_rows(dx, dy, w, h, f):
    """Each number put where it goes to, where that is in the picture."""
    rows = [[0] * w for r in range(h)]
    for index, number in enumerate(f):
        r, c = divmod(index, w)
        if 0 <= r + dy < h and 0 <= c + dx < w:
            rows[r + dy][c + dx] = number
    return [0] + [number for row in rows for number in row]


class Ordinary(unittest.TestCase):
    def test_right(self):
        self.assertEqual(move(1, 0, 3, 2, SIX), [0, 0, 1, 2, 0, 4, 5])

    def test_left(self):
        self.assertEqual(move(-1, 0, 3, 2, SIX), [0, 2, 3, 0, 5, 6, 0])

    def test_down(self):
        self.assertEqual(move(0, 1, 3, 2, SIX), [0, 0, 0, 0, 1, 2, 3])

    def test_up(self):
        self.assertEqual(move(0, -1, 3, 2, SIX), [0, 4, 5, 6, 0, 0, 0])

    def test_aslant(self):
        self.assertEqual(move(2, 1, 3, 2, SIX), [0, 0, 0, 0, 0, 0, 1])
        self.assertEqual(move(-2, 1, 3, 2, SIX), [0, 0, 0, 0, 3, 0, 0])
        self.assertEqual(move(2, -1, 3, 2, SIX), [0, 0, 0, 4, 0, 0, 0])
        self.assertEqual(move(-2, -1, 3, 2, SIX), [0, 6, 0, 0, 0, 0, 0])

    def test_many_moves(self):
        for w, h in [(4, 3), (1, 5), (5, 1)]:
            f = pattern(w * h)
            for dx in range(-6, 7):
                for dy in range(-6, 7):
                    self.assertEqual(move(dx, dy, w, h, f), moved_by_rows(dx, dy, w, h, f), (dx, dy, w, h))

    def test_words(self):
        self.assertEqual(sm_move(4294967295, 4294967295, 3, 2, SIX), [0, 5, 6, 0, 0, 0, 0])

    def test_the_form_of_the_answer(self):
        got = move(1, -1, 5, 4, pattern(20))
        self.assertEqual(len(got), 21)
        assert_plain_answer(self, got)


class Edges(unittest.TestCase):
    def test_not_moved(self):
        for w, h in [(1, 1), (1, 64), (64, 1), (64, 64), (3, 2)]:
            f = pattern(w * h)
            self.assertEqual(move(0, 0, w, h, f), [0] + f)

    def test_so_far_that_nothing_comes(self):
        for dx, dy in [(3, 0), (-3, 0), (0, 2), (0, -2), (8192, 8192), (-8192, -8192), (8192, 0), (0, -8192)]:
            self.assertEqual(move(dx, dy, 3, 2, SIX), [0] * 7)

    def test_sides_of_1_and_of_64(self):
        for w, h in [(1, 1), (1, 64), (64, 1), (64, 64)]:
            f = pattern(w * h)
            for dx in (-64, -63, -1, 0, 1, 63, 64):
                for dy in (-64, -63, -1, 0, 1, 63, 64):
                    self.assertEqual(move(dx, dy, w, h, f), moved_by_rows(dx, dy, w, h, f), (dx, dy, w, h))

    def test_the_greatest_number(self):
        self.assertEqual(move(1, 0, 2, 1, [65535, 0]), [0, 0, 65535])


class WrongInputs(unittest.TestCase):
    BASE = {"dx": 1, "dy": 1, "w": 4, "h": 2}
    RANGES = {"dx": (-8192, 8192), "dy": (-8192, 8192), "w": (1, 64), "h": (1, 64)}

    def test_each_range(self):
        assert_ranges(self, sm_move, self.BASE, self.RANGES, picture_of)

    def test_pictures_without_places(self):
        for w, h in [(0, 2), (2, 0), (0, 0)]:
            self.assertEqual(sm_move(0, 0, w, h, []), [-2])

    def test_the_greatest_words(self):
        self.assertEqual(sm_move(0, 0, 4294967295, 1, []), [-2])
        self.assertEqual(sm_move(0, 0, 1, 4294967295, []), [-2])

    def test_wide_and_low_with_lists(self):
        for w, h in [(65, 1), (1, 65), (65, 64), (64, 65), (5000, 1), (1, 5000)]:
            self.assertEqual(sm_move(0, 0, w, h, pattern(w * h)), [-2])


class StandsAlone(unittest.TestCase):
    def test_nothing_is_changed_or_kept(self):
        kept = assert_same_twice(self, sm_move, [1, word(-1), 4, 5], [pattern(20)])
        sm_move(2, 2, 64, 64, pattern(4096))
        sm_move(8193, 0, 1, 1, [1])
        self.assertEqual(assert_same_twice(self, sm_move, [1, word(-1), 4, 5], [pattern(20)]), kept)

    def test_not_moved_the_answer_is_a_list_of_its_own(self):
        assert_same_twice(self, sm_move, [0, 0, 4, 5], [pattern(20)])

    def test_a_refusal_is_the_same_twice(self):
        self.assertEqual(assert_same_twice(self, sm_move, [0, 0, 65, 1], [pattern(65)]), [-2])


if __name__ == "__main__":
    unittest.main()
