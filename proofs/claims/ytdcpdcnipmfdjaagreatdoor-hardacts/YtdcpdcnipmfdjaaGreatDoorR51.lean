import Derived.Test.YtdcpdcnipmfdjaaGreatDoorR38
import Derived.Test.YtdcpdcnipmfdjaaGreatDoorR39
import Derived.Test.YtdcpdcnipmfdjaaGreatDoorR49
import Derived.Test.YtdcpdcnipmfdjaaGreatDoorR50
import Derived.Test.YtdcpdcnipmfdjaaGreatDoorR24
import Derived.Test.YtdcpdcnipmfdjaaGreatDoorR36
import Derived.Test.YtdcpdcnipmfdjaaGreatDoorR46
/- A disk of the call's own and the document's files beside it: what each act of the law leaves. -/
namespace Go.Proofs.YtdcpdcnipmfdjaaGreatDoor
open Go.RowKit DiskMath
set_option maxRecDepth 100000
set_option linter.unusedSimpArgs false
set_option linter.unusedVariables false

/-- Blocks that are kept beside a disk of the call's own. -/
def Stay (K : List (Nat × Obj)) (S : Nat → Prop) (wr : World) : Prop := ∀ x ∈ K, ¬ S x.1 ∧ wr.heap[x.1]? = some x.2
theorem Stay.step {K : List (Nat × Obj)} {S S' : Nat → Prop} {w w' : World} (h : Stay K S w) (hs : Step S S' w) (hk : Kept S w w') : Stay K S' w' := fun x hx => by
  obtain ⟨h1, h2⟩ := h x hx
  have hl := (Array.getElem?_eq_some_iff.1 h2).1
  exact ⟨fun hb => (hs _ hb).elim h1 fun hb => by omega, (hk.block _ hl h1).trans h2⟩
theorem Stay.below {K : List (Nat × Obj)} {S : Nat → Prop} {w w' : World} (h : Stay K S w) (hb : Below w.heap.size w w') : Stay K S w' := fun x hx => by
  obtain ⟨h1, h2⟩ := h x hx
  exact ⟨h1, (hb.block _ (Array.getElem?_eq_some_iff.1 h2).1).trans h2⟩

/-- The program's disk has files fs', the document's list fs. -/
def Mid (K : List (Nat × Obj)) (w : World) (q : Nat) (lv : Value) (fs fs' : Files) (wr : World) : Prop :=
  ∃ S hS, Dk S wr (.pointer (some ⟨q, 0, none⟩)) fs' ∧ @Fv (keepBut S wr hS) wr lv fs ∧ (∀ b, S b → w.heap.size ≤ b) ∧ Below w.heap.size w wr ∧ SoundF fs ∧ (∀ f ∈ fs, ∀ c ∈ f.data, c < 256) ∧ Stay K S wr
def Both (K : List (Nat × Obj)) (w : World) (q : Nat) (lv : Value) (fs : Files) (wr : World) : Prop := Mid K w q lv fs fs wr

theorem mid_shape {K : List (Nat × Obj)} {w wr : World} {q : Nat} {lv : Value} {fs fs' : Files} (h : Mid K w q lv fs fs' wr) : (∃ ao cap, lv = .slice ao fs.length cap) ∧ Below w.heap.size w wr := by
  obtain ⟨S, hS, hD, hF, hSn, hb, -⟩ := h
  exact ⟨hF.shape, hb⟩
theorem Mid.below {K : List (Nat × Obj)} {w wr w' : World} {q : Nat} {lv : Value} {fs fs' : Files} (h : Mid K w q lv fs fs' wr) (hb : Below wr.heap.size wr w') : Mid K w q lv fs fs' w' := by
  obtain ⟨S, hS, hD, hF, hSn, hbw, hsd, hby, hst⟩ := h
  have hD' := diskOf.below hD hb
  have hF' : @Fv (keepBut S w' (diskOf.lt hD')) w' lv fs := (@Fv.below (keepBut S wr hS) _ _ _ _ hF hb).renew
  exact ⟨S, diskOf.lt hD', hD', hF', hSn, hbw.trans (hb.mono hbw.size), hsd, hby, hst.below hb⟩
/-- A box more is kept. -/
theorem Mid.box {K : List (Nat × Obj)} {w wr : World} {q : Nat} {lv : Value} {fs fs' : Files} (h : Mid K w q lv fs fs' wr) (o : Obj) : Mid ((wr.heap.size, o) :: K) w q lv fs fs' (wr.alloc o) := by
  have hb : Below wr.heap.size wr (wr.alloc o) := (Below.refl _ _).alloc (Nat.le_refl _) _
  obtain ⟨S, hS, hD, hF, hSn, hbw, hsd, hby, hst⟩ := h.below hb
  obtain ⟨S0, hS0, hD0, hF0, hSn0, hbw0, hsd0, hby0, hst0⟩ := h
  have hD' := diskOf.below hD0 hb
  have hF' : @Fv (keepBut S0 (wr.alloc o) (diskOf.lt hD')) (wr.alloc o) lv fs := (@Fv.below (keepBut S0 wr hS0) _ _ _ _ hF0 hb).renew
  refine ⟨S0, diskOf.lt hD', hD', hF', hSn0, hbw, hsd, hby, fun x hx => ?_⟩
  rcases List.mem_cons.1 hx with rfl | hx
  · exact ⟨fun hs => by have := hS0 _ hs; simp at this, heap_alloc_new wr o⟩
  · exact hst0.below hb x hx
theorem Mid.unbox {K : List (Nat × Obj)} {x : Nat × Obj} {w wr : World} {q : Nat} {lv : Value} {fs fs' : Files} (h : Mid (x :: K) w q lv fs fs' wr) : Mid K w q lv fs fs' wr := by
  obtain ⟨S, hS, hD, hF, hSn, hbw, hsd, hby, hst⟩ := h
  exact ⟨S, hS, hD, hF, hSn, hbw, hsd, hby, fun y hy => hst y (List.mem_cons_of_mem _ hy)⟩
theorem Mid.at {K : List (Nat × Obj)} {x : Nat × Obj} {w wr : World} {q : Nat} {lv : Value} {fs fs' : Files} (h : Mid K w q lv fs fs' wr) (hx : x ∈ K) : wr.heap[x.1]? = some x.2 := by
  obtain ⟨S, hS, hD, hF, hSn, hbw, hsd, hby, hst⟩ := h
  exact (hst x hx).2

/-- The disk was acted with. -/
theorem Mid.leaves {K : List (Nat × Obj)} {S : Nat → Prop} {w wr w' : World} {q : Nat} {lv : Value} {fs fs' : Files} {hS : ∀ b, S b → b < wr.heap.size} (hF : @Fv (keepBut S wr hS) wr lv fs) (hSn : ∀ b, S b → w.heap.size ≤ b) (hb : Below w.heap.size w wr) (hsd : SoundF fs) (hby : ∀ f ∈ fs, ∀ c ∈ f.data, c < 256) (hst : Stay K S wr) (hL : Leaves S wr (.pointer (some ⟨q, 0, none⟩)) fs' w') : Mid K w q lv fs fs' w' := by
  obtain ⟨S', h1, h2, h3⟩ := hL
  obtain ⟨h4, h5⟩ := fresh_step hSn hb.size h2 h3
  exact ⟨S', diskOf.lt h1, h1, hF.kept h3 h2, h4, hb.trans h5, hsd, hby, hst.step h2 h3⟩
/-- The document's list is another one. -/
theorem Mid.turn {K : List (Nat × Obj)} {S : Nat → Prop} {w wr w' : World} {q : Nat} {lv : Value} {fs fs' : Files} {hS : ∀ b, S b → b < wr.heap.size} (hD : Dk S wr (.pointer (some ⟨q, 0, none⟩)) fs') (hSn : ∀ b, S b → w.heap.size ≤ b) (hb : Below w.heap.size w wr) (hb' : Below wr.heap.size wr w') (hF : @Fv (keepBut S wr hS) w' lv fs) (hsd : SoundF fs) (hby : ∀ f ∈ fs, ∀ c ∈ f.data, c < 256) (hst : Stay K S wr) : Mid K w q lv fs fs' w' := by
  have hD' := diskOf.below hD hb'
  exact ⟨S, diskOf.lt hD', hD', hF.renew, hSn, hb.trans (hb'.mono hb.size), hsd, hby, hst.below hb'⟩

/-- What saving leaves, whatever the group and the state. -/
def hsaveF (fs : Files) (g v : Int) (t c : Nat) : Files × Nat := if (0 ≤ g ∧ g ≤ 999) ∧ (0 ≤ v ∧ v ≤ 7) then saveF fs g.toNat (Fr.hdB t v.toNat c) else (fs, 1)
/-- What Load tells, whatever the group. -/
def hloadV (fs : Files) (g : Int) : Value := if 0 ≤ g ∧ g ≤ 999 then loadV fs g.toNat else .tuple #[.agg #[.int .u64 0, .int .i64 0, .int .u64 0], .int .i64 1]

theorem save_both {K : List (Nat × Obj)} {w wr : World} {q : Nat} {lv : Value} {fs : Files} (hT : Tb w) (h : Both K w q lv fs wr) (g v : Int) (t c : Nat) (ht : t < 18446744073709551616) (hc : c < 18446744073709551616) :
    Calls Tryz.prog 29 #[.pointer (some ⟨q, 0, none⟩), .int .i64 g, .agg #[.int .u64 (t : Int), .int .i64 v, .int .u64 (c : Int)]] wr fun e w' => e = .returned (.int .i64 ((hsaveF fs g v t c).2 : Int)) ∧ Mid K w q lv fs (hsaveF fs g v t c).1 w' := by
  obtain ⟨S, hS, hD, hF, hSn, hb, hsd, hby, hst⟩ := h
  have hTr := hT.new hb
  have key : Calls Tryz.prog 29 #[.pointer (some ⟨q, 0, none⟩), .int .i64 g, .agg #[.int .u64 (t : Int), .int .i64 v, .int .u64 (c : Int)]] wr (Did Dk S (.pointer (some ⟨q, 0, none⟩)) wr (hsaveF fs g v t c)) := by
    unfold hsaveF
    by_cases hv : 0 ≤ v ∧ v ≤ 7
    · obtain ⟨n, rfl⟩ : ∃ n : Nat, v = (n : Int) := ⟨v.toNat, by omega⟩
      by_cases hg : 0 ≤ g ∧ g ≤ 999
      · obtain ⟨m, rfl⟩ : ∃ m : Nat, g = (m : Int) := ⟨g.toNat, by omega⟩
        rw [if_pos ⟨hg, hv⟩, Int.toNat_natCast, Int.toNat_natCast]
        exact save_of m t n c hTr hD (fun b hb' => Nat.le_trans hT.two (hSn b hb')) (by omega) ht (by omega) hc
      · rw [if_neg (fun h => hg h.1)]
        exact save_group g t n c hTr hD hg ht (by omega) hc
    · rw [if_neg (fun h => hv h.2)]
      exact save_arg g t v c hD hv
  refine key.mono ?_
  rintro e w' ⟨he, hL⟩
  exact ⟨he, Mid.leaves hF hSn hb hsd hby hst hL⟩


theorem ref_both {K : List (Nat × Obj)} {w wr : World} {q : Nat} {lv : Value} {fs : Files} (g v : Int) (t c : Nat) (h : Mid K w q lv fs (hsaveF fs g v t c).1 wr) (ht : t < 18446744073709551616) (hc : c < 18446744073709551616) :
    Calls Tryz.prog 30 #[lv, .int .i64 g, .agg #[.int .u64 (t : Int), .int .i64 v, .int .u64 (c : Int)]] wr fun e w' => ∃ a n p, e = .returned (.tuple #[.slice a n p, .int .i64 ((hsaveF fs g v t c).2 : Int)]) ∧ Both K w q (.slice a n p) (hsaveF fs g v t c).1 w' := by
  obtain ⟨S, hS, hD, hF, hSn, hb, hsd, hby, hst⟩ := h
  have key : Calls Tryz.prog 30 #[lv, .int .i64 g, .agg #[.int .u64 (t : Int), .int .i64 v, .int .u64 (c : Int)]] wr (@Told (keepBut S wr hS) wr (hsaveF fs g v t c)) := by
    unfold hsaveF
    by_cases hgv : (0 ≤ g ∧ g ≤ 999) ∧ (0 ≤ v ∧ v ≤ 7)
    · obtain ⟨n, rfl⟩ : ∃ n : Nat, v = (n : Int) := ⟨v.toNat, by omega⟩
      obtain ⟨m, rfl⟩ : ∃ m : Nat, g = (m : Int) := ⟨g.toNat, by omega⟩
      rw [if_pos hgv, Int.toNat_natCast, Int.toNat_natCast]
      exact @refSave_of (keepBut S wr hS) fs m t n c lv wr hF hsd (by omega) ht (by omega) hc
    · rw [if_neg hgv]
      refine @refSave_no (keepBut S wr hS) fs g t v c lv wr hF ?_
      by_cases hg : 0 ≤ g ∧ g ≤ 999
      · exact .inr fun hv => hgv ⟨hg, hv⟩
      · exact .inl hg
  refine key.mono ?_
  rintro e w' ⟨lv', rfl, hF', hb'⟩
  obtain ⟨a, p, rfl⟩ := hF'.shape
  exact ⟨a, _, p, rfl, Mid.turn hD hSn hb hb' hF' (diskOf.sound hD) hD.byte hst⟩

theorem load_both {K : List (Nat × Obj)} {w wr : World} {q : Nat} {lv : Value} {fs : Files} (hT : Tb w) (h : Both K w q lv fs wr) (g : Int) :
    Calls Tryz.prog 31 #[.pointer (some ⟨q, 0, none⟩), .int .i64 g] wr fun e w' => e = .returned (hloadV fs g) ∧ Both K w q lv fs w' := by
  obtain ⟨S, hS, hD, hF, hSn, hb, hsd, hby, hst⟩ := h
  have key : Calls Tryz.prog 31 #[.pointer (some ⟨q, 0, none⟩), .int .i64 g] wr fun e w' => e = .returned (hloadV fs g) ∧ Leaves S wr (.pointer (some ⟨q, 0, none⟩)) fs w' := by
    unfold hloadV
    by_cases hg : 0 ≤ g ∧ g ≤ 999
    · obtain ⟨m, rfl⟩ : ∃ m : Nat, g = (m : Int) := ⟨g.toNat, by omega⟩
      rw [if_pos hg, Int.toNat_natCast]
      exact load_of m (hT.new hb) hD (fun b hb' => Nat.le_trans hT.two (hSn b hb')) (by omega)
    · rw [if_neg hg]
      exact load_no g hD hg
  refine key.mono ?_
  rintro e w' ⟨he, hL⟩
  exact ⟨he, Mid.leaves hF hSn hb hsd hby hst hL⟩

theorem crash_mid {K : List (Nat × Obj)} {w wr : World} {q : Nat} {lv cv : Value} {fs : Files} {cuts : List Int} (h : Both K w q lv fs wr) (hN : Nv w cv cuts) :
    Calls Tryz.prog 17 #[.pointer (some ⟨q, 0, none⟩), cv] wr fun e w' => e = .returned (.tuple #[]) ∧ Mid K w q lv fs (crash fs cuts) w' := by
  obtain ⟨S, hS, hD, hF, hSn, hb, hsd, hby, hst⟩ := h
  refine (diskOf.crash cv cuts hD fun w' hk => hN.below (hb.trans (hk.below hb.size hSn))).mono ?_
  rintro e w' ⟨he, hL⟩
  exact ⟨he, Mid.leaves hF hSn hb hsd hby hst hL⟩
theorem crash_ref {K : List (Nat × Obj)} {w wr : World} {q : Nat} {lv cv : Value} {fs : Files} {cuts : List Int} (h : Mid K w q lv fs (crash fs cuts) wr) (hN : Nv w cv cuts) :
    Calls Tryz.prog 19 #[lv, cv] wr fun e w' => ∃ a n p, e = .returned (.slice a n p) ∧ Both K w q (.slice a n p) (crash fs cuts) w' := by
  obtain ⟨S, hS, hD, hF, hSn, hb, hsd, hby, hst⟩ := h
  refine (@crash_of (keepBut S wr hS) fs cuts lv cv wr hF (hN.below hb) (by have := hsd.2.1; omega) (fun f hf => ⟨(hsd.2.2 f hf).2.2, (hsd.2.2 f hf).2.1⟩)).mono ?_
  rintro e w' ⟨ov, rfl, hO, hb'⟩
  have hF' : @Fv (keepBut S wr hS) w' ov (crash fs cuts) := @Fo.fv (keepBut S wr hS) _ _ _ _ hO
  obtain ⟨a, p, rfl⟩ := hF'.shape
  exact ⟨a, _, p, rfl, Mid.turn hD hSn hb hb' hF' (diskOf.sound hD) hD.byte hst⟩

/-- Both tell the same files. -/
theorem files_both {K : List (Nat × Obj)} {w wr : World} {q : Nat} {lv : Value} {fs : Files} (h : Both K w q lv fs wr) : Calls Tryz.prog 33 #[.pointer (some ⟨q, 0, none⟩)] wr fun e w' => ∃ a n p, e = .returned (.slice a n p) ∧ Both K w q lv fs w' ∧ Calls Tryz.prog 32 #[.slice a n p, lv] w' fun e w'' => e = .returned (.bool true) ∧ Both K w q lv fs w'' := by
  have hM := h
  obtain ⟨S, hS, hD, hF, hSn, hb, hsd, hby, hst⟩ := h
  refine (dfiles_of hD).mono ?_
  rintro e w' ⟨ov, rfl, hW, hb'⟩
  have hF1 : @Fv keepAll w' ov fs := @Fo.fv keepAll _ _ _ _ (@Fw.fo keepAll _ _ _ _ hW (Nat.zero_le _))
  have hF2 : @Fv keepAll w' lv fs := @Fv.below keepAll _ _ _ _ (hF.imp (fun _ _ _ => trivial) (Nat.zero_le _)) hb'
  obtain ⟨a, p, rfl⟩ := hW.shape
  have hM' := Mid.below hM hb'
  refine ⟨a, _, p, rfl, hM', (@sameF_of keepAll fs _ lv w' hF1 hF2 hby (by have := hsd.2.1; omega)).mono ?_⟩
  rintro e w'' ⟨he, hb''⟩
  exact ⟨he, Mid.below hM' hb''⟩

/-- What the document's own Read and Decode tell of a group's file. -/
theorem rd_both {K : List (Nat × Obj)} {w wr : World} {q : Nat} {lv : Value} {fs : Files} (h : Both K w q lv fs wr) (g : Nat) : Calls Tryz.prog 34 #[lv, .string (gName g)] wr fun e w' => w' = wr ∧ ∃ a n p, e = .returned (.tuple #[.slice a n p, .bool (get fs (gName g)).isSome]) ∧
    Calls Tryz.prog 27 #[.slice a n p] wr fun e w'' => e = .returned (Fr.rdecV (Fr.hdDec (((get fs (gName g)).map Fl.data).getD []))) ∧ Both K w q lv fs w'' := by
  letI := keepAll
  have hM := h
  obtain ⟨S, hS, hD, hF, hSn, hb, hsd, hby, hst⟩ := h
  have hF2 : @Fv keepAll wr lv fs := hF.imp (fun _ _ _ => trivial) (Nat.zero_le _)
  refine (@refRead_of keepAll fs (gName g) lv wr hF2 (by have := hsd.2.1; omega)).mono ?_
  rintro e w' ⟨hT, rfl⟩
  refine ⟨rfl, ?_⟩
  cases hg : get fs (gName g) with
  | none =>
    rw [hg] at hT
    refine ⟨none, 0, 0, hT, ?_⟩
    refine (Fr.refDecode_of w'.heap.size [] _ w' (Fr.Bs.nil _ _) (by simp) (Nat.le_refl _) (by simp)).mono ?_
    rintro e w'' ⟨he, hb''⟩
    exact ⟨he, Mid.below hM hb''⟩
  | some f =>
    rw [hg] at hT
    obtain ⟨sv, he, hB⟩ := hT
    obtain ⟨a, p, rfl, -⟩ := id hB
    have hf := sound_get hsd hg
    refine ⟨a, _, p, he, ?_⟩
    refine (Fr.refDecode_of w'.heap.size f.data _ w' hB.toFr (hby f (get_mem hg)) (Nat.le_refl _) (by omega)).mono ?_
    rintro e w'' ⟨he, hb''⟩
    exact ⟨he, Mid.below hM hb''⟩
end Go.Proofs.YtdcpdcnipmfdjaaGreatDoor

