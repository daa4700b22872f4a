import Derived.Test.YtfbmeeankkfjbaaHq26
import Derived.Test.YtfbmeeankkfjbaaHq19
import Derived.Lib.SlKeysI
/- The contracts of slices.Sorted over slices.Values, and of Meet. -/
namespace Go.Proofs.Ytfbmeeankkfjbaa
open Go.RowKit Go.Shelf Go.Sort QuorumMath
set_option maxRecDepth 100000
set_option linter.unusedSimpArgs false
set_option linter.unusedVariables false

theorem collect_of (Bs : Nat) (ao : Option Addr) (cap : Nat) (zs : List Int) (hreach : zs.length ≤ 1000000) (w : World) (hBs : Bs < w.heap.size)
    (hc : w.cell? ⟨Bs, 0, none⟩ = some (.slice ao zs.length cap)) (hI : Rd intE w (.slice ao zs.length cap) zs) :
    Calls Try.prog 41 #[.func (.func 43) #[] #[.pointer (some ⟨Bs, 0, none⟩)]] w fun e w' => ∃ v, e = .returned v ∧ w'.ownsRow w.heap.size 3 1 v zs.length (zs.map fun z => .int .i64 z) ∧ Below w.heap.size w w' := by
  have ka := appendSeq_of Bs ao cap zs hreach w hBs hc hI
  clear hc hI
  go_enter Try.func41, Try.ntmps41
  go_wp2_with fail
  refine ka.mono ?_
  rintro e w1 ⟨v, rfl, hrow, hb⟩
  go_wp2
  go_ret
  exact ⟨v, rfl, hrow, hb⟩

theorem flat_int (zs : List Int) : intE.flat zs = zs.map fun z => .int .i64 z := by
  induction zs with
  | nil => rfl
  | cons z zs ih => rw [El.flat_cons, ih, List.map_cons]; rfl
theorem rk_of_row {w : World} {n₀ : Nat} {v : Value} {zs : List Int} (h : w.ownsRow n₀ 3 1 v zs.length (zs.map fun z => .int .i64 z)) : Rk intE w 3 v zs := by
  unfold Rk
  rw [flat_int]
  obtain ⟨h1, h2⟩ := h
  refine ⟨h1, h2.imp id ?_⟩
  rintro ⟨g, cp, cur, r1, r2, r3⟩
  exact ⟨g, cp, cur, r1, Nat.zero_le _, r3⟩
/-- What a list holds, sorted. -/
def srt (zs : List Int) : List Int := zs.mergeSort fun x y => decide (x ≤ y)
theorem srt_len (zs : List Int) : (srt zs).length = zs.length := by simp [srt]
theorem srt_mem (zs : List Int) (x : Int) : x ∈ srt zs ↔ x ∈ zs := by simp [srt]
theorem srt_ris (zs : List Int) : (srt zs).Pairwise (· ≤ ·) := by
  have h := List.pairwise_mergeSort (le := fun x y : Int => decide (x ≤ y)) (by intro a b c; simp; omega) (by intro a b; simp; omega) zs
  exact h.imp (by intro a b; simp)
/-- What Sorted tells. -/
def SortT (zs : List Int) (w : World) (e : Ending) (w' : World) : Prop := ∃ v, e = .returned v ∧ Rk intE w' 3 v (srt zs) ∧ Below w.heap.size w w'
set_option maxHeartbeats 1000000 in
theorem sorted_of (Bs : Nat) (ao : Option Addr) (cap : Nat) (zs : List Int) (hreach : zs.length ≤ 1000000) (w : World) (hBs : Bs < w.heap.size)
    (hc : w.cell? ⟨Bs, 0, none⟩ = some (.slice ao zs.length cap)) (hI : Rd intE w (.slice ao zs.length cap) zs) :
    Calls Try.prog 31 #[.func (.func 43) #[] #[.pointer (some ⟨Bs, 0, none⟩)]] w (SortT zs w) := by
  have ka := collect_of Bs ao cap zs hreach w hBs hc hI
  clear hc hI
  go_enter Try.func31, Try.ntmps31
  go_wp2_with fail
  refine ka.mono ?_
  rintro e W ⟨v, rfl, hrow, hb⟩
  rcases id hrow.2 with ⟨rfl, hz⟩ | ⟨gb, gc, cur, rfl, hbase, hgb, r1, r2, r3, r4⟩
  · obtain rfl : zs = [] := List.eq_nil_of_length_eq_zero hz
    have ks := Try.slices_Sort_ints_none none 0 W
    clear ka
    go_wp2_with fail
    refine ks.mono ?_
    rintro e w' ⟨rfl, hw'⟩
    subst hw'
    go_wp2
    go_ret
    have hn : Rk intE w' 3 (.slice none 0 0) (srt []) := by rw [show srt [] = [] by simp [srt]]; exact Rk.nil _ _ _
    exact ⟨_, rfl, hn, hb⟩
  · have hH : Holds (Value.int .i64) W gb 0 zs.toArray := holds_of_block_i hgb (by simpa using r4)
    have hgl : gb < W.heap.size := (Array.getElem?_eq_some_iff.1 hgb).1
    have ks := Try.slices_Sort_ints gb 0 gc zs W hH hgl (by omega)
    have hfin : ∀ n os, SortT zs w (.returned (.slice (some ⟨gb, 0, none⟩) zs.length gc)) (grow (putRow (Value.int .i64) (Sort.ahead W n) gb 0 (zs.mergeSort fun x y => decide (x ≤ y)).toArray) os) := fun n os => by
      have h1 : (grow (putRow (Value.int .i64) (Sort.ahead W n) gb 0 (srt zs).toArray) os).ownsRow 0 3 1 (.slice (some ⟨gb, 0, none⟩) zs.length gc) zs.length ((srt zs).map fun z => .int .i64 z) := ownsRow_sorted_i (srt_len zs) (Nat.zero_le _) hgb r1 r2 r3
      have h2 := h1
      rw [← srt_len zs] at h2
      refine ⟨_, rfl, ?_, hb.trans (grown_below (grownBy_sorted_i _) hb.size (fun k e => by cases e; exact hbase))⟩
      have h3 := rk_of_row h2
      rw [srt_len] at h3
      exact h3
    clear ka hH hgb r1 r2 r3 r4 hrow
    go_wp2_with fail
    refine ks.mono ?_
    rintro e w' ⟨rfl, n, os, hw'⟩
    have hf := hfin n os
    rw [← hw'] at hf
    clear hw' hfin
    generalize SortT zs w = T at *
    have hfH : Hid _ := hf
    clear hf
    go_wp2 <;> first | exact hfH.out | (go_ret; exact hfH.out)

theorem meet1_of {w : World} {q : Nat} {v : Value} {s : List Int} (hq : w.cell? ⟨q, 0, none⟩ = some v) (hR : Rd intE w v s) (hp : s.Pairwise (· ≤ ·)) (hlen : s.length ≤ 1000000) (z : Int) :
    Calls Try.prog 34 #[.int .i64 z, .pointer (some ⟨q, 0, none⟩)] w fun e w' => e = .returned (.bool (decide (z ∈ s))) ∧ w' = w := by
  obtain ⟨K, hK⟩ := spot_ex s z hp
  have ks := search_of s v z K w hR hlen hK hp
  generalize decide (z ∈ s) = B at *
  obtain ⟨ao, cap, rfl, -, -⟩ := hR.shape
  clear hR hp hK
  go_enter Try.func34, Try.ntmps34
  go_wp2_with fail
  refine ks.mono ?_
  rintro e w1 ⟨rfl, hw1⟩
  subst hw1
  go_wp2
  go_ret
  exact ⟨rfl, rfl⟩

/-- What IndexFunc tells. -/
def IdxM (a s : List Int) (e : Ending) : Prop := ∃ z : Int, e = .returned (.int .i64 z) ∧ ((∃ x ∈ a, x ∈ s) ↔ 0 ≤ z)
set_option maxHeartbeats 1000000 in
theorem indexf_of {w : World} {q : Nat} {v : Value} {s : List Int} (hq : w.cell? ⟨q, 0, none⟩ = some v) (hR : Rd intE w v s) (hp : s.Pairwise (· ≤ ·)) (hlen : s.length ≤ 1000000) (a : List Int) (av : Value) (hA : Rd intE w av a) (hla : a.length ≤ 1000000) :
    Calls Try.prog 44 #[av, .func (.func 34) #[] #[.pointer (some ⟨q, 0, none⟩)]] w fun e w' => IdxM a s e ∧ w' = w := by
  have km := fun z => meet1_of hq hR hp hlen z
  obtain ⟨ao, cap, rfl, -, -⟩ := hA.shape
  go_enter Try.func44, Try.ntmps44
  go_wp2
  go_loopg [8] a.length (fun g s8 wr => ∃ i : Nat, i + g = a.length ∧ s8 = .int .i64 (i : Int) ∧ wr = w ∧ Hid (∀ x ∈ a.take i, x ∉ s))
  case atStart => exact ⟨0, by simp, rfl, rfl, fun x hx => by simp at hx⟩
  case round =>
    obtain ⟨i, hig, rfl, rfl, HN⟩ := hrel
    by_cases hlt : i < a.length
    · have hlti : (i : Int) < (a.length : Int) := by omega
      have hx : a[i]? = some a[i] := List.getElem?_eq_getElem hlt
      obtain ⟨x, hxx⟩ : ∃ x, x = a[i] := ⟨_, rfl⟩
      rw [← hxx] at hx
      clear hxx
      obtain ⟨b, off, rfl, c⟩ := rdi_at hA hx
      have c0 := c wr (Below.refl _ _)
      have km1 := km x
      by_cases hxs : x ∈ s
      · have E : Hid (∃ x ∈ a, x ∈ s) := ⟨x, List.mem_of_getElem? hx, hxs⟩
        rw [decide_eq_true hxs] at km1
        clear HN hA c hx hR hp km hxs
        go_wp2_with (go_at_call 34; refine km1.mono ?_; rintro e wc ⟨rfl, hwc⟩; subst hwc)
        go_ret
        exact ⟨⟨_, rfl, by simp [E.out]⟩, rfl⟩
      · have HN' : Hid (∀ x ∈ a.take (i + 1), x ∉ s) := fun y hy => by
          rw [take_succ_get hx, List.mem_append, List.mem_singleton] at hy
          rcases hy with hy | rfl
          · exact HN.out y hy
          · exact hxs
        rw [decide_eq_false hxs] at km1
        clear HN hA c hx hR hp km hxs
        go_wp2_with (go_at_call 34; refine km1.mono ?_; rintro e wc ⟨rfl, hwc⟩; subst hwc)
        go_roundg (gk - 1)
        case measure => omega
        case rel => exact ⟨i + 1, by omega, by go_num, rfl, HN'⟩
    · have hlti : ¬ (i : Int) < (a.length : Int) := by omega
      obtain rfl : i = a.length := by omega
      have E : Hid (¬ ∃ x ∈ a, x ∈ s) := by
        rintro ⟨x, h1, h2⟩
        exact HN.out x (by rw [List.take_length]; exact h1) h2
      clear HN hA hR hp km
      go_wp2
      go_ret
      exact ⟨⟨_, rfl, by simp [E.out]⟩, rfl⟩

theorem containsf_of {w : World} {q : Nat} {v : Value} {s : List Int} (hq : w.cell? ⟨q, 0, none⟩ = some v) (hR : Rd intE w v s) (hp : s.Pairwise (· ≤ ·)) (hlen : s.length ≤ 1000000) (a : List Int) (av : Value) (hA : Rd intE w av a) (hla : a.length ≤ 1000000) (B : Bool) (HB : Hid (B = decide (∃ x ∈ a, x ∈ s))) :
    Calls Try.prog 33 #[av, .func (.func 34) #[] #[.pointer (some ⟨q, 0, none⟩)]] w fun e w' => e = .returned (.bool B) ∧ w' = w := by
  have ki := indexf_of hq hR hp hlen a av hA hla
  obtain ⟨ao, cap, rfl, -, -⟩ := hA.shape
  clear hA hR hp hq
  go_enter Try.func33, Try.ntmps33
  go_wp2_with fail
  refine ki.mono ?_
  rintro e w1 ⟨⟨z, rfl, hz⟩, hw1⟩
  subst hw1
  have E : Hid (B = decide (0 ≤ z)) := by show _ = _; rw [HB.out, decide_eq_decide]; exact hz
  clear HB hz ki
  go_wp2
  go_ret
  exact ⟨by rw [E.out]; rfl, rfl⟩
theorem cnt_pos {a b : List Int} : 0 < cnt a b ↔ ∃ x ∈ a, x ∈ b := by
  unfold cnt
  rw [List.countP_pos_iff]
  simp
set_option maxHeartbeats 1000000 in
theorem meet_of (a : List Int) (av : Value) (b : List Int) (bv : Value) (w : World) (hA : Rd intE w av a) (hB : Rd intE w bv b) (hla : a.length ≤ 1000000) (hlb : b.length ≤ 1000000) : Calls Try.prog 23 #[av, bv] w fun e w' => e = .returned (.bool (decide (0 < cnt a b))) ∧ Below w.heap.size w w' := by
  obtain ⟨R, HR⟩ : ∃ B, Hid (B = decide (0 < cnt a b)) := ⟨_, rfl⟩
  rw [← HR.out]
  obtain ⟨aa, ac, rfl, -, -⟩ := hA.shape
  obtain ⟨ba, bc, rfl, -, -⟩ := hB.shape
  obtain ⟨hs0, hbk0, hb0⟩ := one_box w (.cells #[.slice ba b.length bc] 22)
  have ks := sorted_of w.heap.size ba bc b hlb (w.alloc (.cells #[.slice ba b.length bc] 22)) (by simp) (by rw [cells_of_block hbk0]; rfl) (hB.below hb0)
  have kv := values_of ba b.length bc w
  go_enter Try.func23, Try.ntmps23
  go_wp2_with fail
  refine kv.mono ?_
  rintro e w' ⟨rfl, hw'⟩
  rw [← hw'] at ks hb0 hs0
  clear hw' kv hbk0
  go_wp2_with fail
  refine ks.mono ?_
  rintro e w1 ⟨v, rfl, hS, hb1⟩
  have hb01 := hb0.trans (hb1.mono hb0.size)
  clear ks
  obtain ⟨sa, sc, rfl, -, -⟩ := hS.rd.shape
  obtain ⟨hs2, hbk2, hb2⟩ := one_box w1 (.cells #[.slice sa (srt b).length sc] 22)
  have hb02 := hb01.trans (hb2.mono hb01.size)
  have kc := containsf_of (w := w1.alloc (.cells #[.slice sa (srt b).length sc] 22)) (q := w1.heap.size) (by rw [cells_of_block hbk2]; rfl) (hS.rd.below hb2) (srt_ris b) (by rw [srt_len]; exact hlb) a (.slice aa a.length ac) (hA.below hb02) hla R (by
    show _ = _
    rw [HR.out, decide_eq_decide, cnt_pos]
    simp only [srt_mem])
  clear hbk2 hS hA hB HR
  generalize (srt b).length = sl at *
  go_wp2_with fail
  refine kc.mono ?_
  rintro e w3 ⟨rfl, hw3⟩
  rw [← hw3] at hb02
  clear hw3 kc hb2 hs2
  go_wp2
  go_ret
  exact ⟨rfl, hb02⟩
end Go.Proofs.Ytfbmeeankkfjbaa

