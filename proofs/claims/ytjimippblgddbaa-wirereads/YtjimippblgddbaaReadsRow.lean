/- The law WireReads answers true at every byte slice and every slice of items and leaves its arguments and all memory as they were: the walk and the row. -/
import Derived.Test.YtjimippblgddbaaReads2
import Derived.Test.YtjimippblgddbaaOpen
import Derived.Test.YtjimippblgddbaaRows
import Derived.OpenShut
import Derived.JoinedCond
import Derived.Carry
import Derived.SizedLaws
import Derived.ProofKit
namespace Go.Proofs.Ytjimippblgddbaa
open Go.ChangeShapes Go.WideShapes Go.ChangeAt Go.RowKit WireMath
set_option maxRecDepth 100000
set_option linter.unusedSimpArgs false

theorem reads_of (n₀ q r : Nat) (l : List Nat) (a b : Nat) (d : Int) (n : Nat) (sv : Value) (m : Int) (w : World) (h : Two n₀ w q r l a b) (hl : ∀ c ∈ l, c < 256) (hm2 : m ≤ 9223372036854775807) (hlen : l.length ≤ 140737488355328) :
    Calls Try.prog 12 #[.pointer (some ⟨q, 0, none⟩), .pointer (some ⟨r, 0, none⟩), .agg #[.int .i64 d, .int .u64 (n : Int), sv, .int .i64 m]] w (Left2 n₀ w q r l) := by
  by_cases h0 : d = 0
  · subst h0; exact reads_0 n₀ q r l a b n sv m w h hl
  by_cases h1 : d = 1
  · subst h1; exact reads_1 n₀ q r l a b n sv m w h hl
  by_cases h2 : d = 2
  · subst h2; exact reads_2 n₀ q r l a b n sv m w h hl
  by_cases h3 : d = 3
  · subst h3; exact reads_3 n₀ q r l a b n sv m w h hl
  by_cases h4 : d = 4
  · subst h4; exact reads_4 n₀ q r l a b n sv m w h hl
  by_cases h5 : d = 5
  · subst h5; exact reads_5 n₀ q r l a b n sv m w h hl hm2
  exact reads_6 n₀ q r l a b d n sv m w h hl hm2 hlen h0 h1 h2 h3 h4 h5

set_option maxHeartbeats 4000000 in
theorem reads_law (l : List Nat) (its : List It) (v0 v1 : Value) (w : World) (h0 : Bs w.heap.size w v0 l) (hI : Items w.heap.size w v1 its) (hl : ∀ c ∈ l, c < 256) (hlen : l.length ≤ 140737488355328) :
    Calls Try.prog 4 #[v0, v1] w fun e w' => e = .returned (.bool true) ∧ Below w.heap.size w w' := by
  obtain ⟨ao, cap, rfl, hI2, hI3, hI4, hI5⟩ := hI
  have hkm : its.length ≤ 9223372036854775807 := by unfold maxLen at hI3; omega
  go_enter Try.func4, Try.ntmps4
  go_wp2_with (at_builtin; refine wpList_append_bs rfl _ _ rfl w.heap.size _ [] rfl (Own.nil _ _) (Nat.le_refl _) w.heap.size _ l rfl h0 ?c1 ?_)
  case c1 => simp; omega
  intro b1 w1 hO1 hb1
  have h01 := h0.below hb1
  go_wp2_with fail
  refine (read_of w1.heap.size l b1 w1 hO1.bs (Nat.le_refl _) hlen).mono ?_
  rintro e w2 ⟨q, rfl, hq, hR, hb2⟩
  have hB2 : Below w.heap.size w w2 := hb1.trans (hb2.mono hb1.size)
  have hq0 : w.heap.size ≤ q := Nat.le_trans hb1.size hq
  have h02 := h0.below hB2
  have hql := hR.lt
  clear hO1 hb1 hb2 h01 hq
  obtain ⟨ao0, cap0, rfl, _⟩ := id h02
  have b3 := (Below.refl w2.heap.size w2).alloc (Nat.le_refl _) (.cells #[.slice ao0 l.length cap0, .int .i64 0, .int .i64 0] 37)
  have hT : Two w.heap.size (w2.alloc (.cells #[.slice ao0 l.length cap0, .int .i64 0, .int .i64 0] 37)) q w2.heap.size l 0 0 :=
    ⟨hR.below b3, ⟨_, heap_alloc_new w2 _, h02.below (b3.mono hB2.size), Nat.zero_le _, hB2.size⟩, hq0, hql⟩
  have hB3 : Below w.heap.size w (w2.alloc (.cells #[.slice ao0 l.length cap0, .int .i64 0, .int .i64 0] 37)) := hB2.trans (b3.mono hB2.size)
  go_wp2
  generalize (w2.alloc (.cells #[.slice ao0 l.length cap0, .int .i64 0, .int .i64 0] 37)) = w3 at hT hB3 ⊢
  generalize w2.heap.size = r at hT ⊢
  clear hR b3 h02 hB2 hql
  go_loopg [8] its.length (fun g s8 wr => ∃ k a b : Nat, k + g = its.length ∧ s8 = .int .i64 (k : Int) ∧ Two w.heap.size wr q r l a b ∧ Below w.heap.size w wr)
  case atStart => exact ⟨0, 0, 0, by simp, rfl, hT, hB3⟩
  case round =>
    clear hT hB3
    obtain ⟨k, a, b, hk, rfl, hT, hB⟩ := hrel
    by_cases hlt : k < its.length
    · obtain ⟨bb, off, rfl, hb, hc⟩ := hI5 (by rintro rfl; simp at hlt)
      obtain ⟨c0, c1, c2, c3⟩ := hc k _ (List.getElem?_eq_getElem hlt)
      have hx := hI4 _ (List.getElem_mem hlt)
      have d0 := (hB.cell (p := ⟨bb, off + k * 4, none⟩) hb).trans c0
      have d1 := (hB.cell (p := ⟨bb, off + k * 4 + 1, none⟩) hb).trans c1
      have d2 := (hB.cell (p := ⟨bb, off + k * 4 + 2, none⟩) hb).trans c2
      have d3 := (hB.cell (p := ⟨bb, off + k * 4 + 3, none⟩) hb).trans c3
      have hlti : (k : Int) < (its.length : Int) := by omega
      clear hc hI4 hI5 c0 c1 c2 c3
      generalize its[k] = x at *
      have hw := reads_of w.heap.size q r l a b x.d x.n x.v x.m wr hT hl hx.2.2.2.2.2 hlen
      go_wp2_with fail
      refine hw.mono ?_
      rintro e w4 ⟨rfl, ⟨a', b', hT'⟩, hb4⟩
      clear hw
      go_wp2
      go_roundg (gk - 1)
      case measure => omega
      case rel => exact ⟨k + 1, a', b', by omega, by go_num, hT', hB.trans hb4⟩
    · have hlti : ¬ (k : Int) < (its.length : Int) := by omega
      go_wp2_with fail
      refine (awake_of _).mono ?_
      rintro e w6 ⟨rfl, hb6⟩
      go_wp2
      go_ret
      exact ⟨rfl, hB.trans (hb6.mono hB.size)⟩

theorem reads_own : ownKnob Try.prog.godebug = none := by kernel_rfl
theorem reads_laidOut : laidOutB Try.prog = true := by kernel_rfl
theorem reads_byte : Try.prog.bytesOf 5 = 1 := by kernel_rfl

theorem reads_contract (H : Type) (enc : TypeId × Value → H) (W : World) (base : Nat) (args : Array Value) (ds gs : List (DataW H)) (before : List MemPlace)
    (hval : ∀ (j : Nat) t v, Try.f4.params[j]? = some t → args[j]? = some v → Value.okWide Try.prog W .any base t v)
    (hW : DataW.Whole enc Try.prog Try.f4.params.toList Rows.wireReadsSpec.vars false W args.toList ds gs before)
    (hsz : (DataW.weightsEach Try.prog (Try.f4.params.toList ++ Rows.wireReadsSpec.plain.varTypes Try.prog) (ds ++ gs)).all (· ≤ reachBytes) = true) :
    Calls Try.prog 4 args W fun e W' => ∃ v, e = .returned v ∧ Rows.wireReadsSpec.post enc Try.prog Try.f4 false true false false W args v W' := by
  have hW' := hW
  obtain ⟨p, q, hA0, hV, rfl, hfz, hnd⟩ := hW
  have hA : DataW.TrodAll enc Try.prog W 0 (fun _ => true) true Try.f4.params.toList args.toList ds p := hA0
  rw [Try.params4] at hA hval hsz
  obtain ⟨v0, v1, d0, d1, p0, p1, rfl, rfl, rfl, h0, h1⟩ := trodAll_two hA
  obtain ⟨rfl, rfl⟩ := trodVars_none hV
  obtain ⟨a0, len0, cap0, e0⟩ := okWide_slice Try.underlying22 (hval 0 22 v0 rfl rfl)
  obtain ⟨a1, len1, cap1, e1⟩ := okWide_slice Try.underlying23 (hval 1 23 v1 rfl rfl)
  have hh0 := h0
  have hh1 := h1
  obtain ⟨f0, g0⟩ := h0
  obtain ⟨f1, g1⟩ := h1
  rw [show v0.cells.toList = [v0] by rw [e0]; rfl] at g0
  rw [show v1.cells.toList = [v1] by rw [e1]; rfl] at g1
  obtain ⟨l, hB, hb0, _, _, hform⟩ := bs_opened g0
  obtain ⟨its, hI, _⟩ := items_opened g1
  have hlt : ∀ x ∈ p0 ++ p1, x.block < W.heap.size := fun x hx => by simpa using hW'.lt x (by simpa using hx)
  have hlen : l.length ≤ 140737488355328 := by
    rcases hform with rfl | ⟨el, sp, hd, hel⟩
    · simp
    · have h1 := sized_slice hsz (j := 0) (t := 22) (e := 5) (elems := el) (spare := sp) rfl (by simpa using hd) Try.underlying22
      rw [reads_byte] at h1
      unfold reachBytes at h1
      omega
  have es : Rows.wireReadsSpec.fn H ([d0, d1] ++ []) = { results := [.lit (.bool true)], args := [d0, d1] } := by simp [Rows.wireReadsSpec]
  refine (reads_law l its v0 v1 W hB hI hb0 hlen).mono fun e W' ⟨he, hb⟩ => ?_
  subst he
  refine ⟨_, rfl, _, _, _, [], p0 ++ p1, [], hW', ?_, ?_, ?_, hb.frame _, fun h => by cases h⟩
  · rw [es]; exact trodAll_mk1 (shut_bool Try.underlying4 true)
  · rw [es]
    exact trodAll_cons_mk (Below.trod reads_laidOut (by kernel_rfl) (of_decide_eq_true (by kernel_rfl)) hh0 hb (fun x hx => hlt x (List.mem_append_left _ hx)))
      (trodAll_mk1 (Below.trod reads_laidOut (by kernel_rfl) (of_decide_eq_true (by kernel_rfl)) hh1 hb (fun x hx => hlt x (List.mem_append_right _ hx))))
  · rw [es]; rfl

theorem reads_lifted (os : Os) (started : os.Started) (H : Type) (enc : TypeId × Value → H) :
    ReturnsInHanded {} Try.checked os 4 .any (Rows.wireReadsSpec.pre6 enc Try.prog Try.f4 Rows.wireReadsRow.domain false) (Rows.wireReadsSpec.post enc Try.prog Try.f4 false true false false) := by
  refine returnsInHanded_of_change_sized (C := Try.checked) reads_own started (by kernel_rfl) Try.func4
    (ChangeSpec.witness6 (enc := enc) (C := Try.checked) false ⟨#[], #[.slice none 0 0, .slice none 0 0], []⟩ 8 (by kernel_rfl) (by kernel_rfl) (by kernel_rfl) (by kernel_rfl) (by kernel_rfl)) ?_
  intro W base args ds gs before hval hW _ hsz _
  exact reads_contract H enc W base args ds gs before hval hW hsz

theorem reads_row : Rows.WireReadsSaid :=
  OpenClaim.holds_of_wide 4 Try.f4 rfl rfl rfl rfl rfl rfl rfl ⟨rfl, rfl, rfl, rfl, rfl⟩ rfl rfl rfl rfl rfl (by kernel_rfl) Try.func4 (by kernel_rfl)
    (of_decide_eq_true (by kernel_rfl)) (by unfold Func.isWrapper; rw [if_neg (of_decide_eq_false (by kernel_rfl))]; exact ⟨rfl, rfl⟩)
    (fun os started H enc _ => reads_lifted os started H enc)
#print axioms reads_row
end Go.Proofs.Ytjimippblgddbaa
