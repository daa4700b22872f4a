
/- Plain mathematics of numbers as bytes: digits to the base 128, and that a reader that takes no other form reads back just what was written. -/
namespace WireMath

/-- The reader: 'f' bytes may still come, 'i' have come, their digits make 'n'. What it gives: the number, and how many bytes it has. -/
def rd : Nat → Nat → Nat → List Nat → Option (Nat × Nat)
  | 0, _, _, _ => none
  | _ + 1, _, _, [] => none
  | f + 1, i, n, c :: r =>
    if i = 9 ∧ 1 < c % 128 then none
    else if c < 128 then (if c = 0 ∧ 0 < i then none else some (n + c * 128 ^ i, i + 1))
    else rd f (i + 1) (n + (c % 128) * 128 ^ i) r

end WireMath

