import Derived.Test.YtjkjekhbfjjnjaaHb01
import Derived.OwnWalk
import Derived.Deep.LoopGhost
import Derived.Deep.QuietTactic
import Derived.Deep.RegionHeld3
import Derived.WalkSmall
import Derived.BigQuiet
import Derived.Lib.SlBytesConst
import Derived.Lib.SliceRun
import Derived.Laws.IdiomStrings
/- General means: rows of the call's own, cuts of a byte slice, bytes as a text. -/
namespace Go.Proofs.Ytjkjekhbfjjnjaa
open Go.RowKit
set_option maxRecDepth 100000
set_option linter.unusedSimpArgs false

theorem cells_new (w : World) (cs : Array Value) (l : List Nat) (h : cs.toList = bc l) : ∀ j u, (bc l)[j]? = some u → (w.alloc (.cells cs 5)).cell? ((⟨w.heap.size, 0, none⟩ : Addr).add j) = some u := by
  intro j u hj
  rw [Addr.add_lit, cells_of_block (heap_alloc_new w _), Nat.zero_add, ← Array.getElem?_toList, h]
  exact hj

theorem own_new (w : World) (cs : Array Value) (l : List Nat) (h : cs.toList = bc l) (hl : l.length ≤ maxLen) : Own w.heap.size (w.alloc (.cells cs 5)) (.slice (some ⟨w.heap.size, 0, none⟩) l.length l.length) l := by
  have hs : cs.size = l.length := by rw [← Array.length_toList, h, bc_length]
  refine ⟨by rw [bc_length, Nat.mul_one], .inr ⟨w.heap.size, l.length, cs, rfl, Nat.le_refl _, heap_alloc_new w _, Nat.le_refl _, hl, by rw [hs]; simp, ?_⟩⟩
  rw [h, List.take_of_length_le (by rw [bc_length]; omega)]

theorem Bs.took [Keep] {n : Nat} {w : World} {l : List Nat} {ao : Option Addr} {len cap k : Nat} (h : Bs n w (.slice ao len cap) l) (hk : k ≤ l.length) : Bs n w (.slice ao k cap) (l.take k) := by
  obtain ⟨ao', cp, e0, h2, h3, h4, h5⟩ := h
  cases e0
  have hl : (l.take k).length = k := by rw [List.length_take]; omega
  refine ⟨ao, cap, by rw [hl], by rw [hl]; omega, h3, h4, fun hne => ?_⟩
  obtain ⟨b, off, e1, e2, e3⟩ := h5 (by rintro rfl; simp at hne)
  refine ⟨b, off, e1, e2, fun j c hj => e3 j c ?_⟩
  rw [List.getElem?_take] at hj
  split at hj
  · exact hj
  · cases hj

theorem Bs.drewN [Keep] {n₀ : Nat} {w : World} {v : Value} {l : List Nat} (h : Bs n₀ w v l) (k : Nat) : Bs n₀ (w.drewN k) v l := h
theorem results_tmp4 {fn : Func} {t u v x : Tmp} (h : fn.results = #[.tmp t, .tmp u, .tmp v, .tmp x]) (tmps : Array Value) (P : Program) (w : World) :
    (results fn tmps).run P w = .ok (.tuple #[tmps.getD t undef, tmps.getD u undef, tmps.getD v undef, tmps.getD x undef]) w := by
  simp [results, h]

theorem Bs.cut [Keep] {n₀ : Nat} {w : World} {l : List Nat} {b off len cap : Nat} (h : Bs n₀ w (.slice (some ⟨b, off, none⟩) len cap) l) (k s : Nat) (hk : k + s ≤ l.length) (c : Nat) (hc : s ≤ c) (hcm : c ≤ maxLen) :
    Bs n₀ w (.slice (some ⟨b, off + k, none⟩) s c) ((l.drop k).take s) := by
  obtain ⟨ao, cap', h1, h2, h3, h4, h5⟩ := h
  cases h1
  have hlen : ((l.drop k).take s).length = s := by rw [List.length_take, List.length_drop]; omega
  refine ⟨_, _, by rw [hlen], by rw [hlen]; exact hc, hcm, (fun h => by cases h), fun hne => ?_⟩
  have hne' : l ≠ [] := by rintro rfl; simp at hne
  obtain ⟨b', off', e1, e2, e3⟩ := h5 hne'
  cases e1
  refine ⟨b, off + k, rfl, e2, fun j c hj => ?_⟩
  rw [List.getElem?_take] at hj
  split at hj
  · rw [List.getElem?_drop] at hj
    rw [Nat.add_assoc]
    exact e3 (k + j) c hj
  · cases hj

/-- Bytes as a text. -/
def str (l : List Nat) : ByteArray := ⟨(l.map UInt8.ofNat).toArray⟩

theorem str_nil (w : World) : (convert 31 9 (.slice none 0 0)).run Try.prog w = .ok (.string (str [])) w := by kernel_rfl

theorem str_of [Keep] {n₀ : Nat} {w : World} {v : Value} {l : List Nat} (h : Bs n₀ w v l) (hl : ∀ c ∈ l, c < 256) :
    (convert 31 9 v).run Try.prog w = .ok (.string (str l)) w := by
  obtain ⟨ao, cap, rfl, h2, h3, h4, h5⟩ := h
  cases ao with
  | none =>
    have := h4 rfl
    obtain rfl : l = [] := List.eq_nil_of_length_eq_zero (by omega)
    obtain rfl : cap = 0 := by omega
    exact str_nil w
  | some ad =>
    have e := run_convert_bytes_back (P := Try.prog) w 31 9 5 ad cap (l.map UInt8.ofNat) Try.underlying31 Try.underlying5 Try.underlying9 ?_
    · rw [List.length_map] at e; exact e
    · intro j hj
      rw [List.length_map] at hj
      have hne : l ≠ [] := by rintro rfl; simp at hj
      obtain ⟨b, off, e1, _, e3⟩ := h5 hne
      obtain rfl := Option.some.inj e1
      have := e3 j l[j] (by simp [hj])
      have hc := hl l[j] (List.getElem_mem hj)
      rw [Addr.add_lit, this]
      simp only [List.getElem_map, UInt8.toNat_ofNat']
      rw [Nat.mod_eq_of_lt (by omega)]

theorem str_inj {l r : List Nat} (hl : ∀ c ∈ l, c < 256) (hr : ∀ c ∈ r, c < 256) (h : str l = str r) : l = r := by
  have h1 : l.map UInt8.ofNat = r.map UInt8.ofNat := by
    have := congrArg (fun x => x.data.toList) h
    simpa [str] using this
  have back : ∀ m : List Nat, (∀ c ∈ m, c < 256) → (m.map UInt8.ofNat).map UInt8.toNat = m := by
    intro m hm
    rw [List.map_map]
    conv => rhs; rw [← List.map_id m]
    apply List.map_congr_left
    intro c hc
    have := hm c hc
    simp [Nat.mod_eq_of_lt this]
  rw [← back l hl, ← back r hr, h1]
theorem str_ne {l r : List Nat} (hl : ∀ c ∈ l, c < 256) (hr : ∀ c ∈ r, c < 256) (h : l ≠ r) : ((str l).toList == (str r).toList) = false := by
  rw [beq_eq_false_iff_ne]
  intro e
  refine h (str_inj hl hr ?_)
  rw [ByteArray.toList_eq, ByteArray.toList_eq] at e
  exact ByteArray.ext (Array.toList_inj.1 e)

theorem frozen_of {w : World} {q : Nat} {cs : Array Value} {t : TypeId} (h : w.heap[q]? = some (.cells cs t (0, 0))) (i : Nat) : w.frozen? ⟨q, i, none⟩ = false := by
  simp [World.frozen?, h]

end Go.Proofs.Ytjkjekhbfjjnjaa

