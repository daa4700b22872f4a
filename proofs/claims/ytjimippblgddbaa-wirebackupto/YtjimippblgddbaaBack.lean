/- The walk of the law WireBack: it answers true at every slice of items that are together short enough, and what lay in memory before stays as it was. -/
import Derived.Test.YtjimippblgddbaaWrites
import Derived.Test.YtjimippblgddbaaFixed
import Derived.Test.YtjimippblgddbaaBytes
import Derived.Test.YtjimippblgddbaaDone
namespace Go.Proofs.Ytjimippblgddbaa
open Go.RowKit WireMath
set_option maxRecDepth 100000
set_option linter.unusedSimpArgs false

/-- The reader behind at_ bytes, the item in its block X, old memory as it was. -/
def Sx (w : World) (q X : Nat) (L : List Nat) (at_ : Nat) (d : Int) (n : Nat) (sv : Value) (m : Int) (W : World) : Prop :=
  Rd W q L at_ 0 ∧ W.cell? ⟨X, 0, none⟩ = some (.int .i64 d) ∧ W.cell? ⟨X, 1, none⟩ = some (.int .u64 (n : Int)) ∧ W.cell? ⟨X, 2, none⟩ = some sv ∧ W.cell? ⟨X, 3, none⟩ = some (.int .i64 m) ∧ Below w.heap.size w W ∧ X < W.heap.size

theorem Sx.drewN {w : World} {q X : Nat} {L : List Nat} {at_ : Nat} {d : Int} {n : Nat} {sv : Value} {m : Int} {W : World} (h : Sx w q X L at_ d n sv m W) (k : Nat) : Sx w q X L at_ d n sv m (W.drewN k) :=
  ⟨h.1.below (below_drewN (Below.refl _ _) k), h.2.1, h.2.2.1, h.2.2.2.1, h.2.2.2.2.1, below_drewN h.2.2.2.2.2.1 k, h.2.2.2.2.2.2⟩
theorem Sx.drew {w : World} {q X : Nat} {L : List Nat} {at_ : Nat} {d : Int} {n : Nat} {sv : Value} {m : Int} {W : World} (h : Sx w q X L at_ d n sv m W) : Sx w q X L at_ d n sv m W.drew :=
  ⟨h.1.below (Below.refl _ _).drew, h.2.1, h.2.2.1, h.2.2.2.1, h.2.2.2.2.1, h.2.2.2.2.2.1.drew, h.2.2.2.2.2.2⟩
theorem Sx.kp {w : World} {q X : Nat} {L : List Nat} {at_ at' : Nat} {d : Int} {n : Nat} {sv : Value} {m : Int} {W W' : World} (h : Sx w q X L at_ d n sv m W) (hR : Rd W' q L at' 0) (hk : Kp q W W') (hq : w.heap.size ≤ q) (hX : X ≠ q) : Sx w q X L at' d n sv m W' := by
  obtain ⟨_, c0, c1, c2, c3, hB, hlt⟩ := h
  have key : ∀ i v, W.cell? ⟨X, i, none⟩ = some v → W'.cell? ⟨X, i, none⟩ = some v := fun i v hv => hk.cell (a := ⟨X, i, none⟩) hv (fun e => hX (by simpa using e))
  exact ⟨hR, key 0 _ c0, key 1 _ c1, key 2 _ c2, key 3 _ c3, hB.trans (hk.below hq hB.size), Nat.lt_of_lt_of_le hlt hk.size⟩

theorem take4 (n : Nat) (r : List Nat) : (fx 4 n ++ r).take 4 = fx 4 n := by rw [List.take_append_of_le_length (by rw [fx_length]; exact Nat.le_refl _), List.take_of_length_le (by rw [fx_length]; exact Nat.le_refl _)]
theorem take8 (n : Nat) (r : List Nat) : (fx 8 n ++ r).take 8 = fx 8 n := by rw [List.take_append_of_le_length (by rw [fx_length]; exact Nat.le_refl _), List.take_of_length_le (by rw [fx_length]; exact Nat.le_refl _)]

theorem out_split (l : List It) (k : Nat) (h : k < l.length) : out l = out (l.take k) ++ (itB l[k].d l[k].n l[k].s ++ out (l.drop (k + 1))) := by
  have e : l = l.take k ++ (l[k] :: l.drop (k + 1)) := by rw [← List.drop_eq_getElem_cons h, List.take_append_drop]
  have h2 : out (l.take k ++ (l[k] :: l.drop (k + 1))) = out (l.take k) ++ (itB l[k].d l[k].n l[k].s ++ out (l.drop (k + 1))) := by
    simp only [out, List.flatMap_append, List.flatMap_cons]
  rw [← e] at h2
  exact h2

theorem wrap_s64 {n : Nat} (h : n < 18446744073709551616) : IntKind.i64.wrap (n : Int) = s64 n := by
  unfold s64
  split
  · exact IntWalk.i64_in _ (by omega)
  · exact PlainAid.i64_high (by omega) (by omega)
theorem wrap_u32 (n : Nat) : IntKind.u32.wrap (n : Int) = ((n % 4294967296 : Nat) : Int) := by simp [IntKind.wrap, IntKind.bits, IntKind.signed]

theorem itB_0 (n : Nat) (s : List Nat) : itB 0 n s = uv n := by unfold itB; rw [if_pos rfl]
theorem itB_1 (n : Nat) (s : List Nat) : itB 1 n s = uv (zz (s64 n)) := by unfold itB; rw [if_neg (by decide), if_pos rfl]
theorem itB_2 (n : Nat) (s : List Nat) : itB 2 n s = fx 4 (n % 4294967296) := by unfold itB; rw [if_neg (by decide), if_neg (by decide), if_pos rfl]
theorem itB_3 (n : Nat) (s : List Nat) : itB 3 n s = fx 8 n := by unfold itB; rw [if_neg (by decide), if_neg (by decide), if_neg (by decide), if_pos rfl]
theorem itB_6 (n : Nat) (s : List Nat) : itB 6 n s = uv s.length ++ s := by unfold itB; rw [if_neg (by decide), if_neg (by decide), if_neg (by decide), if_neg (by decide), if_pos rfl]

/-- What a reader tells where just these bytes stand. -/
theorem uv_at {L r : List Nat} {a n : Nat} (h : L.drop a = uv n ++ r) (hn : n < 18446744073709551616) : uvN L a 0 = n ∧ uvA L a 0 = a + (uv n).length ∧ uvE L a 0 = 0 := by
  have hs : rd 10 0 0 (src L a 0) = some (n, (uv n).length) := by
    have : src L a 0 = L.drop a := rfl
    rw [this, h]
    exact read_back n hn r
  simp [uvN, uvA, uvE, hs]
theorem fx_at {L r : List Nat} {a n k : Nat} (h : L.drop a = fx k n ++ r) (ht : (fx k n ++ r).take k = fx k n) (hn : n < 256 ^ k) : fxN L a 0 k = n ∧ fxA L a 0 k = a + k ∧ fxE L a 0 k = 0 := by
  have hs : src L a 0 = fx k n ++ r := h
  have hl : ¬ (fx k n ++ r).length < k := by rw [List.length_append, fx_length]; omega
  unfold fxN fxA fxE
  rw [hs, if_neg hl, if_neg hl, if_neg hl, ht, unfx_fx, Nat.mod_eq_of_lt hn]
  exact ⟨rfl, rfl, rfl⟩

theorem fixed8_at (q : Nat) (L rst : List Nat) (at_ n : Nat) (W : World) (hR : Rd W q L at_ 0) (hlb : ∀ c ∈ L, c < 256) (hdr : L.drop at_ = fx 8 n ++ rst) (hxn : n < 18446744073709551616) :
    Calls Try.prog 16 #[.pointer (some ⟨q, 0, none⟩)] W fun e w' => e = .returned (.int .u64 (n : Int)) ∧ Rd w' q L (at_ + 8) 0 ∧ Kp q W w' := by
  obtain ⟨e1, e2, e3⟩ := fx_at (L := L) (r := rst) (a := at_) (n := n) (k := 8) hdr (take8 _ _) hxn
  have hm := fixed8_m q L at_ 0 W hR hlb
  rw [e1, e2, e3] at hm
  exact hm
end Go.Proofs.Ytjimippblgddbaa
