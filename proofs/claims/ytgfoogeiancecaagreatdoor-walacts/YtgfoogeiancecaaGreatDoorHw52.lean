import Derived.Test.YtgfoogeiancecaaGreatDoorHw36
import Derived.Test.YtgfoogeiancecaaGreatDoorHw41
import Derived.Test.YtgfoogeiancecaaGreatDoorHw42
/- The law's awake. -/
namespace Go.Proofs.YtgfoogeiancecaaGreatDoor
open Go.RowKit WalMath DiskMath
set_option maxRecDepth 100000
set_option linter.unusedSimpArgs false
set_option linter.unusedVariables false

def rA : Rec := ⟨5, [97]⟩
def rB : Rec := ⟨6, []⟩
theorem okA : okRec rA := by unfold okRec rA; decide
theorem okB : okRec rB := by unfold okRec rB; decide
theorem rec_len {r : Rec} (hok : okRec r) : (recB r).length ≤ 5000 := by
  have := rec_small hok
  have hlen4 := hok.2.2.1
  unfold recB
  rw [FrameMath.frameB_length]
  have h1 := WireMath.uv_len10 hok.2.1
  have h2 : (WireMath.uv ((WireMath.uv r.index ++ r.data).length + 5)).length ≤ 10 := WireMath.uv_len10 (by rw [List.length_append]; omega)
  rw [List.length_append] at *
  omega
theorem lenA : (recB rA).length ≤ 40 := by
  have hok := okA
  unfold recB
  rw [FrameMath.frameB_length]
  have h1 := WireMath.uv_len10 hok.2.1
  have h2 : (WireMath.uv ((WireMath.uv rA.index ++ rA.data).length + 5)).length ≤ 10 := WireMath.uv_len10 (by rw [List.length_append]; have : rA.data.length = 1 := rfl; omega)
  have : rA.data.length = 1 := rfl
  rw [List.length_append] at *
  omega

abbrev N1 : ByteArray := segName 1
def fs1 : Files := [⟨N1, recB rA, 0⟩]
def fs2 : Files := [⟨N1, recB rA, (recB rA).length⟩]
def fs3 : Files := [⟨N1, recB rA ++ recB rB, (recB rA).length⟩]
def sA : List Seg := [⟨1, [rA]⟩]
def sAB : List Seg := [⟨1, [rA, rB]⟩]
theorem wone_put (f g : File) (h : g.name = f.name) : putF [f] g = [g] := put_place (fs := [f]) (i := 0) (f := f) (g := g) ⟨by simp, trivial⟩ rfl h
theorem m1 : dAppend (roomF [] []) (segName (roomN [])) (recB rA) = (fs1, 0) := by
  show dAppend [] N1 (recB rA) = _
  have := rec_len okA
  unfold dAppend
  rw [if_neg (by rw [segName_may]; simp), get_nil]
  dsimp only
  rw [if_neg (by simp; omega)]
  simp [putF, put, putFrom, fs1]
theorem m2 : syncF sA fs1 = fs2 := by
  show (dSync fs1 N1).1 = _
  unfold dSync fs1
  rw [get_cons, if_pos rfl]
  exact wone_put ⟨N1, recB rA, 0⟩ ⟨N1, recB rA, (recB rA).length⟩ rfl
theorem szA : sz [rA] ≤ 4096 := by
  rw [sz_single]
  have := rec_len okA
  have h2 : (recB rA).length ≤ 40 := lenA
  omega
theorem roomA : roomN sA = 1 ∧ roomF sA fs2 = fs2 := ⟨if_pos szA, if_pos szA⟩
theorem m3 : dAppend (roomF sA fs2) (segName (roomN sA)) (recB rB) = (fs3, 0) := by
  rw [roomA.1, roomA.2]
  have h1 := rec_len okA
  have h2 := rec_len okB
  unfold dAppend
  rw [if_neg (by rw [segName_may]; simp)]
  unfold fs2
  rw [get_cons, if_pos rfl]
  dsimp only
  rw [if_neg (by omega)]
  exact congrArg (fun l => (l, 0)) (wone_put ⟨N1, recB rA, (recB rA).length⟩ ⟨N1, recB rA ++ recB rB, (recB rA).length⟩ rfl)
theorem m4 : crash fs3 [] = fs2 := by
  show [crashOne (⟨N1, recB rA ++ recB rB, (recB rA).length⟩ : File) none] = _
  unfold crashOne left fs2
  simp
theorem m5 : leaveF sA fs2 = fs2 := by
  show (dCut fs2 N1 (sz [rA] : Int)).1 = _
  unfold dCut fs2
  rw [get_cons, if_pos rfl, sz_single]
  dsimp only
  rw [if_neg (by omega)]
  have e : (Int.toNat ((recB rA).length : Int)) = (recB rA).length := by omega
  rw [e, List.take_of_length_le (Nat.le_refl _), Nat.min_self]
  exact wone_put ⟨N1, recB rA, (recB rA).length⟩ ⟨N1, recB rA, (recB rA).length⟩ rfl
theorem addA : addS [] 1 rA = sA := rfl
theorem addB : addS sA 1 rB = sAB := rfl
theorem wholeA {fs : Files} (h : get fs N1 = some ⟨N1, recB rA, (recB rA).length⟩ ∨ get fs N1 = some ⟨N1, recB rA, 0⟩) : Whole sA fs := by
  refine ⟨by decide, fun s hs => ?_⟩
  obtain rfl : s = ⟨1, [rA]⟩ := by simpa [sA] using hs
  refine ⟨by decide, by decide, Nat.le_trans szA (by decide), fun r hr => ?_, ⟨.inl rfl, trivial⟩, ?_⟩
  · obtain rfl : r = rA := by simpa using hr
    exact okA
  · rcases h with h | h
    · exact ⟨_, h, by show recB rA = joinR [rA]; rw [joinR_single]⟩
    · exact ⟨_, h, by show recB rA = joinR [rA]; rw [joinR_single]⟩
theorem whole1 : Whole sA fs1 := wholeA (.inr (by unfold fs1; rw [get_cons, if_pos rfl]))
theorem whole2 : Whole sA fs2 := wholeA (.inl (by unfold fs2; rw [get_cons, if_pos rfl]))
theorem fewNil : Few [] := ⟨by simp, (fun s hs => by cases hs), (fun i j s t h => by simp at h), fun s h => by simp at h⟩
theorem fewA : Few sA := by
  refine ⟨by decide, fun s hs => ?_, fun i j s t h1 h2 hne => ?_, fun s hs t ht => ?_⟩
  · obtain rfl : s = ⟨1, [rA]⟩ := by simpa [sA] using hs
    exact ⟨by decide, by decide, Nat.le_trans szA (by decide)⟩
  · have a1 := (List.getElem?_eq_some_iff.1 h1).1
    have a2 := (List.getElem?_eq_some_iff.1 h2).1
    simp [sA] at a1 a2
    omega
  · obtain rfl : t = ⟨1, [rA]⟩ := by simpa [sA] using ht
    have : s = ⟨1, [rA]⟩ := by simpa [sA] using hs.symm
    subst this
    decide
theorem consNil : Cons [] [] := ⟨by simp, fun m s h => by simp at h⟩
theorem rdlNil : Rdl [] := ⟨(fun i x y h => by simp at h), (fun x h => by cases h), (fun x h => by cases h), trivial, (fun i x h => by simp at h), (fun x h => by cases h), by simp⟩
def xsA : List (Seg × Nat) := [(⟨1, [rA]⟩, (recB rA).length)]
theorem rdlA : Rdl xsA := by
  refine ⟨fun i x y h1 h2 => ?_, fun x hx => ?_, fun x hx => ?_, ⟨.inl rfl, trivial⟩, fun i x h1 h2 => ?_, fun x hx => ?_, by decide⟩
  · have := (List.getElem?_eq_some_iff.1 h2).1
    simp [xsA] at this
  · obtain rfl : x = (⟨1, [rA]⟩, (recB rA).length) := by simpa [xsA] using hx
    decide
  · obtain rfl : x = (⟨1, [rA]⟩, (recB rA).length) := by simpa [xsA] using hx
    intro r hr
    obtain rfl : r = rA := by simpa using hr
    exact okA
  · simp [xsA] at h2
  · obtain rfl : x = (⟨1, [rA]⟩, (recB rA).length) := by simpa [xsA] using hx
    exact ⟨Nat.le_trans szA (by decide), by decide⟩
theorem cutA : xsA.map cutS = sA := by
  show [cutS (⟨1, [rA]⟩, (recB rA).length)] = [⟨1, [rA]⟩]
  unfold cutS
  dsimp only
  rw [cutN_all [rA] (recB rA).length (by rw [sz_single]; exact Nat.le_refl _)]
  rfl
theorem fileA : SegFs fs2 (xsA.map xfile) := by
  refine ⟨rfl, fun i f x h1 h2 => ?_⟩
  have hi := (List.getElem?_eq_some_iff.1 h1).1
  obtain rfl : i = 0 := by
    simp [fs2] at hi
    omega
  have e1 : f = ⟨N1, recB rA, (recB rA).length⟩ := by simpa [fs2] using h1.symm
  have e2 : x = xfile (⟨1, [rA]⟩, (recB rA).length) := by simpa [xsA] using h2.symm
  subst e1
  subst e2
  refine ⟨rfl, ?_⟩
  show recB rA = (joinR [rA]).take (recB rA).length
  rw [joinR_single, List.take_of_length_le (Nat.le_refl _)]

/-- A log of the call's own. -/
def Mine (n : Nat) (w : World) (v d : Value) (sg : List Seg) (fs : Files) : Prop := ∃ U, Lg U w v d sg fs ∧ ∀ b, U b → n ≤ b
theorem Mine.step {n : Nat} {w w' : World} {v d : Value} {sg : List Seg} {fs : Files} {U : Nat → Prop} (hU : ∀ b, U b → n ≤ b) (hn : n ≤ w.heap.size) (h : LgN U w v d sg fs w') : Mine n w' v d sg fs ∧ Below n w w' := by
  obtain ⟨U', h1, h2, h3⟩ := h
  obtain ⟨h4, h5⟩ := fresh_step hU hn h2 h3
  exact ⟨⟨U', h1, h4⟩, h5⟩
end Go.Proofs.YtgfoogeiancecaaGreatDoor

/- The law's awake: its walk. -/
namespace Go.Proofs.YtgfoogeiancecaaGreatDoor
open Go.RowKit WalMath DiskMath
set_option maxRecDepth 100000
set_option linter.unusedSimpArgs false
set_option linter.unusedVariables false

theorem Mine.shape {n : Nat} {w : World} {v d : Value} {sg : List Seg} {fs : Files} (h : Mine n w v d sg fs) : (∃ q, v = .pointer (some ⟨q, 0, none⟩)) ∧ ∃ q, d = .pointer (some ⟨q, 0, none⟩) := by
  obtain ⟨U, hL, -⟩ := h
  obtain ⟨S, σ, q, sv, h1, h2, -⟩ := hL.ex
  exact ⟨⟨q, h1⟩, h2.shape⟩
theorem Mine.below {n : Nat} {w w' : World} {v d : Value} {sg : List Seg} {fs : Files} (h : Mine n w v d sg fs) (hb : Below w.heap.size w w') : Mine n w' v d sg fs := by
  obtain ⟨U, hL, hU⟩ := h
  exact ⟨U, hL.below hb, hU⟩

theorem s_opens {n : Nat} {S : Nat → Prop} {w : World} {d : Value} {fs : Files} (xs : List (Seg × Nat)) (hT : Tb w) (hD : Dk S w d fs) (hS : ∀ b, S b → n ≤ b) (h2 : 2 ≤ n) (hn : n ≤ w.heap.size) (hx : Rdl xs) (hs : SegFs fs (xs.map xfile)) :
    Calls Tryz.prog 5 #[d] w fun e w' => ∃ v, e = .returned (.tuple #[v, .int .i64 0]) ∧ Mine n w' v d (xs.map cutS) (leaveF (xs.map cutS) fs) ∧ Below n w w' := by
  refine (opens_of xs hT hD (fun b hb => Nat.le_trans h2 (hS b hb)) hx hs).mono ?_
  rintro e w' ⟨v, U, he, hL, hst, hk⟩
  obtain ⟨h4, h5⟩ := fresh_step hS hn hst hk
  exact ⟨v, he, ⟨U, hL, h4⟩, h5⟩
theorem s_open1 {n : Nat} {S : Nat → Prop} {w : World} {d : Value} (hT : Tb w) (hD : Dk S w d []) (hS : ∀ b, S b → n ≤ b) (h2 : 2 ≤ n) (hn : n ≤ w.heap.size) :
    Calls Tryz.prog 5 #[d] w fun e w' => ∃ v, e = .returned (.tuple #[v, .int .i64 0]) ∧ Mine n w' v d [] [] ∧ Below n w w' :=
  s_opens [] hT hD hS h2 hn rdlNil ⟨rfl, fun i f x h => by simp at h⟩
theorem s_open2 {n : Nat} {S : Nat → Prop} {w : World} {d : Value} (hT : Tb w) (hD : Dk S w d fs2) (hS : ∀ b, S b → n ≤ b) (h2 : 2 ≤ n) (hn : n ≤ w.heap.size) :
    Calls Tryz.prog 5 #[d] w fun e w' => ∃ v, e = .returned (.tuple #[v, .int .i64 0]) ∧ Mine n w' v d sA fs2 ∧ Below n w w' := by
  have := s_opens xsA hT hD hS h2 hn rdlA fileA
  rw [cutA, m5] at this
  exact this
theorem s_app1 {n : Nat} {w : World} {v d bv : Value} (hT : Tb w) (h : Mine n w v d [] []) (h2 : 2 ≤ n) (hn : n ≤ w.heap.size) (hB : @Bs keepAll w.heap.size w bv [97]) :
    Calls Tryz.prog 17 #[v, .agg #[.int .u64 5, bv]] w fun e w' => e = .returned (.int .i64 0) ∧ Mine n w' v d sA fs1 ∧ Below n w w' := by
  obtain ⟨U, hL, hU⟩ := h
  refine (append_ok rA hT hL (fun b hb => Nat.le_trans h2 (hU b hb)) consNil fewNil okA hB (.inl rfl) (by decide) m1).mono ?_
  rintro e w' ⟨he, hN⟩
  exact ⟨he, Mine.step hU hn hN⟩
theorem s_app2 {n : Nat} {w : World} {v d : Value} (hT : Tb w) (h : Mine n w v d sA fs2) (h2 : 2 ≤ n) (hn : n ≤ w.heap.size) :
    Calls Tryz.prog 17 #[v, .agg #[.int .u64 6, .slice none 0 0]] w fun e w' => e = .returned (.int .i64 0) ∧ Mine n w' v d sAB fs3 ∧ Below n w w' := by
  obtain ⟨U, hL, hU⟩ := h
  have := append_ok rB hT hL (fun b hb => Nat.le_trans h2 (hU b hb)) whole2.cons fewA okB (@Bs.nil keepAll _ _) (.inr rfl) (by rw [roomA.1]; decide) m3
  rw [roomA.1, addB] at this
  refine this.mono ?_
  rintro e w' ⟨he, hN⟩
  exact ⟨he, Mine.step hU hn hN⟩
theorem s_sync {n : Nat} {w : World} {v d : Value} (hT : Tb w) (h : Mine n w v d sA fs1) (hn : n ≤ w.heap.size) :
    Calls Tryz.prog 8 #[v] w fun e w' => e = .returned (.tuple #[]) ∧ Mine n w' v d sA fs2 ∧ Below n w w' := by
  obtain ⟨U, hL, hU⟩ := h
  have := sync_w hT hL whole1.cons
  rw [m2] at this
  refine this.mono ?_
  rintro e w' ⟨he, hN⟩
  exact ⟨he, Mine.step hU hn hN⟩
theorem s_crash {n : Nat} {w : World} {v d : Value} (h : Mine n w v d sAB fs3) (hn : n ≤ w.heap.size) :
    Calls Tryz.prog 14 #[d, .slice none 0 0] w fun e w' => e = .returned (.tuple #[]) ∧ (∃ S, Dk S w' d fs2 ∧ ∀ b, S b → n ≤ b) ∧ Below n w w' := by
  obtain ⟨U, hL, hU⟩ := h
  obtain ⟨S, σ, q, sv, -, hD, -, -, h5⟩ := hL.ex
  have := diskOf.crash (.slice none 0 0) [] hD fun w'' hk => ⟨none, 0, rfl, (fun _ => rfl), fun i c hc => by simp at hc⟩
  rw [m4] at this
  refine this.mono ?_
  rintro e w' ⟨he, S', h1, h2, h3⟩
  obtain ⟨h4, h5⟩ := fresh_step (fun b hb => hU b ((h5 b).2 (.inl hb))) hn h2 h3
  exact ⟨he, ⟨S', h1, h4⟩, h5⟩
theorem s_get {n : Nat} {w : World} {v d : Value} (hT : Tb w) (h : Mine n w v d sA fs2) :
    Calls Tryz.prog 55 #[v, .int .u64 5] w fun e w' => ∃ a c, e = .returned (.tuple #[.slice a 1 c, .bool true]) ∧ (convert 32 9 (.slice a 1 c)).run Tryz.prog w' = .ok (.string ⟨#[97]⟩) w' ∧ Below w.heap.size w w' := by
  letI := keepAll
  obtain ⟨U, hL, hU⟩ := h
  obtain ⟨S, σ, q, sv, rfl, hD, hW, -, -⟩ := hL.ex
  refine (get_of 5 hT hD hW whole2 (by decide)).mono ?_
  rintro e w' ⟨hb, ⟨s, hs, r, hr, -, v, he, hB⟩ | ⟨hno, -⟩⟩
  · obtain rfl : s = ⟨1, [rA]⟩ := by simpa [sA] using hs
    obtain rfl : r = rA := by simpa using hr
    have hst := Fr.str_of hB.fr (by show ∀ c ∈ [97], c < 256; decide)
    obtain ⟨a, c, rfl, -⟩ := id hB
    exact ⟨a, c, he, hst, hb⟩
  · exact absurd (show hasIx ⟨1, [rA]⟩ 5 from ⟨by simp, Nat.le_refl _, Nat.le_refl _⟩) (hno _ (by simp [sA]))
theorem s_first {n : Nat} {w : World} {v d : Value} (hT : Tb w) (h : Mine n w v d sA fs2) :
    Calls Tryz.prog 56 #[v] w fun e w' => e = .returned (.int .u64 5) ∧ Below w.heap.size w w' := by
  obtain ⟨U, hL, hU⟩ := h
  obtain ⟨S, σ, q, sv, rfl, hD, hW, -, -⟩ := hL.ex
  exact first_of hT hD hW whole2.cons
theorem s_last {n : Nat} {w : World} {v d : Value} (hT : Tb w) (h : Mine n w v d sA fs2) :
    Calls Tryz.prog 7 #[v] w fun e w' => e = .returned (.int .u64 5) ∧ Below w.heap.size w w' := by
  obtain ⟨U, hL, hU⟩ := h
  obtain ⟨S, σ, q, sv, rfl, hD, hW, -, -⟩ := hL.ex
  exact last_of hT hD hW whole2.cons (fun s hs => by
    obtain rfl : s = ⟨1, [rA]⟩ := by simpa [sA] using hs
    decide)

/-- A byte of a text, new in memory. -/
theorem one_bs (w : World) (a : Nat) (m : Nat × Nat) : @Bs keepAll (w.alloc (.cells #[.int .u8 (a : Int)] 5 m)).heap.size (w.alloc (.cells #[.int .u8 (a : Int)] 5 m)) (.slice (some ⟨w.heap.size, 0, none⟩) 1 1) [a] := by
  refine ⟨some ⟨w.heap.size, 0, none⟩, 1, rfl, by simp, by unfold maxLen; omega, (fun h => by cases h), fun _ => ⟨w.heap.size, 0, rfl, ⟨by simp, trivial⟩, fun j c hj => ?_⟩⟩
  have hb : (w.alloc (.cells #[.int .u8 (a : Int)] 5 m)).heap[w.heap.size]? = some (.cells #[.int .u8 (a : Int)] 5 m) := heap_alloc_new w _
  have hj' : j < 1 := by
    have := (List.getElem?_eq_some_iff.1 hj).1
    simpa using this
  obtain rfl : j = 0 := by omega
  simp at hj
  subst hj
  unfold World.cell?
  dsimp only
  rw [hb]
  rfl

set_option maxHeartbeats 2000000 in
theorem once_of (w : World) (hT : Tb w) : Calls Tryz.prog 20 #[] w fun e w' => e = .returned (.bool true) ∧ Below w.heap.size w w' := by
  have h0 := dnew_of w
  have h2w := hT.two
  have hc1 : ∀ w' : World, (convert 32 32 (.slice (some ⟨w'.heap.size, 0, none⟩) 1 1)).run Tryz.prog (w'.alloc (.cells #[.int .u8 97] 5)) = .ok (.slice (some ⟨w'.heap.size, 0, none⟩) 1 1) (w'.alloc (.cells #[.int .u8 97] 5 (1, 2))) := fun w' => Lib.run_convert_bytes_const w' 32 5 _ 1 1 Tryz.underlying32 Tryz.underlying5
  go_enter Tryz.func20, Tryz.ntmps20
  go_wp2_with fail
  refine h0.mono ?_
  rintro e w1 ⟨S1, d, rfl, hD1, hS1, hb1⟩
  have k1 := s_open1 (hT.new hb1) hD1 hS1 h2w hb1.size
  obtain ⟨dq, rfl⟩ := hD1.shape
  clear h0
  go_wp2_with fail
  refine k1.mono ?_
  rintro e w2 ⟨v, rfl, hM2, hb2⟩
  obtain ⟨⟨vq, rfl⟩, -⟩ := hM2.shape
  have B2 := hb1.trans hb2
  have hx2 : Below w2.heap.size w2 (w2.alloc (.cells #[.int .u8 97] 5 (1, 2))) := (Below.refl _ _).alloc (Nat.le_refl _) _
  have B2x := B2.trans (hx2.mono B2.size)
  have k2 := s_app1 (hT.new B2x) (hM2.below hx2) h2w B2x.size (one_bs w2 97 (1, 2))
  clear k1 hD1
  go_wp2_with fail
  refine k2.mono ?_
  rintro e w3 ⟨rfl, hM3, hb3⟩
  have B3 := B2x.trans hb3
  have k3 := s_sync (hT.new B3) hM3 B3.size
  clear k2 hM2 hb2 hx2 hc1 B2x B2
  go_wp2_with fail
  refine k3.mono ?_
  rintro e w4 ⟨rfl, hM4, hb4⟩
  have B4 := B3.trans hb4
  have k4 := s_app2 (hT.new B4) hM4 h2w B4.size
  clear k3 hM3 hb3 B3
  go_wp2_with fail
  refine k4.mono ?_
  rintro e w5 ⟨rfl, hM5, hb5⟩
  have B5 := B4.trans hb5
  have k5 := s_crash hM5 B5.size
  clear k4 hM4 hb4 B4
  go_wp2_with fail
  refine k5.mono ?_
  rintro e w6 ⟨rfl, ⟨S6, hD6, hS6⟩, hb6⟩
  have B6 := B5.trans hb6
  have k6 := s_open2 (hT.new B6) hD6 hS6 h2w B6.size
  clear k5 hM5 hb5 B5 hD6
  go_wp2_with fail
  refine k6.mono ?_
  rintro e w7 ⟨v7, rfl, hM7, hb7⟩
  obtain ⟨⟨vq7, rfl⟩, -⟩ := hM7.shape
  have B7 := B6.trans hb7
  have k7 := s_get (hT.new B7) hM7
  clear k6 hb6 B6
  go_wp2_with fail
  refine k7.mono ?_
  rintro e w8 ⟨a8, c8, rfl, hcv, hb8⟩
  have B8 := B7.trans (hb8.mono B7.size)
  have hM8 := hM7.below hb8
  have k8 := s_first (hT.new B8) hM8
  have k9 : ∀ W, Below w8.heap.size w8 W → Calls Tryz.prog 7 #[.pointer (some ⟨vq7, 0, none⟩)] W fun e w' => e = .returned (.int .u64 5) ∧ Below w.heap.size w w' := fun W hb => (s_last (hT.new (B8.trans (hb.mono B8.size))) (hM8.below hb)).mono fun e w' h => ⟨h.1, (B8.trans (hb.mono B8.size)).trans (h.2.mono (B8.trans (hb.mono B8.size)).size)⟩
  clear k7 hM7 hb7 B7
  go_wp2_with fail
  refine k8.mono ?_
  rintro e w9 ⟨rfl, hb9⟩
  have kl := k9 w9 hb9
  clear k8 k9
  go_wp2_with fail
  refine kl.mono ?_
  rintro e w10 ⟨rfl, hb10⟩
  clear kl
  go_wp2
  go_ret
  exact ⟨rfl, hb10⟩
end Go.Proofs.YtgfoogeiancecaaGreatDoor

