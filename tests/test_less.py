"""Promise 4: sm_less."""

import unittest

from picturestack.pictures import sm_less
from tests.support import assert_plain_answer, assert_same_twice, pattern


def meant(word):
    """The number that a word tells."""
    return word - 2 ** 32 if word >= 2 ** 31 else word


class Ordinary(unittest.TestCase):
    def test_number_by_number(self):
        self.assertEqual(sm_less([9, 70, 500], [4, 69, 100]), [0, 5, 1, 400])
        self.assertEqual(sm_less([9, 7, 0], [4, 7, 1]), [0, 5, 0, 4294967295])

    def test_many_numbers(self):
        for count in (1, 2, 40, 1000):
            a, b = pattern(count), pattern(count, 31)[::-1]
            got = sm_less(a, b)
            self.assertEqual(got[0], 0)
            self.assertEqual([meant(one) for one in got[1:]], [one - other for one, other in zip(a, b)])

    def test_the_form_of_the_answer(self):
        got = sm_less(pattern(30), pattern(30, 31))
        self.assertEqual(len(got), 31)
        self.assertEqual(got[0], 0)
        assert_plain_answer(self, got)


class Edges(unittest.TestCase):
    def test_below_0(self):
        self.assertEqual(sm_less([0], [1]), [0, 4294967295])
        self.assertEqual(sm_less([65534], [65535]), [0, 4294967295])
        self.assertEqual(sm_less([10, 11, 12], [11, 11, 11]), [0, 4294967295, 0, 1])

    def test_alike(self):
        self.assertEqual(sm_less([0, 1, 65535], [0, 1, 65535]), [0, 0, 0, 0])
        self.assertEqual(sm_less(pattern(4096), pattern(4096)), [0] * 4097)

    def test_the_ends_of_numbers(self):
        self.assertEqual(sm_less([65535, 0], [0, 65535]), [0, 65535, 4294967296 - 65535])

    def test_no_numbers(self):
        self.assertEqual(sm_less([], []), [0])

    def test_as_many_as_may_be(self):
        self.assertEqual(sm_less([65535] * 4096, [0] * 4096), [0] + [65535] * 4096)
        self.assertEqual(sm_less([0] * 4096, [65535] * 4096), [0] + [4294901761] * 4096)
        self.assertEqual(sm_less([5] * 4095, [3] * 4095), [0] + [2] * 4095)


class WrongInputs(unittest.TestCase):
    def test_more_than_4096(self):
        for count in (4097, 4098, 5000):
            self.assertEqual(sm_less([1] * count, [1] * count), [-2])
            self.assertEqual(sm_less([0] * count, [0] * count), [-2])
            self.assertEqual(sm_less(pattern(count), pattern(count, 31)), [-2])


class StandsAlone(unittest.TestCase):
    def test_nothing_is_changed_or_kept(self):
        lists = [pattern(40), pattern(40, 31)]
        kept = assert_same_twice(self, sm_less, [], lists)
        sm_less([1, 2], [3, 4])
        sm_less([1] * 4097, [1] * 4097)
        self.assertEqual(assert_same_twice(self, sm_less, [], lists), kept)

    def test_one_list_handed_in_twice(self):
        f = pattern(9)
        self.assertEqual(sm_less(f, f), [0] * 10)
        self.assertEqual(f, pattern(9))

    def test_no_numbers_twice(self):
        self.assertEqual(assert_same_twice(self, sm_less, [], [[], []]), [0])

    def test_a_refusal_is_the_same_twice(self):
        self.assertEqual(assert_same_twice(self, sm_less, [], [pattern(4097), pattern(4097)]), [-2])


if __name__ == "__main__":
    unittest.main()
