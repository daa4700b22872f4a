import Derived.Test.YtoipjmjhplkibaaGreatDoorP34
import Derived.Test.YtoipjmjhplkibaaGreatDoorP35
import Derived.Test.YtoipjmjhplkibaaGreatDoorP24
import Derived.Test.YtoipjmjhplkibaaGreatDoorP47
import Derived.Test.YtoipjmjhplkibaaGreatDoorP48
import Derived.Test.YtoipjmjhplkibaaGreatDoorP23
import Derived.Test.YtoipjmjhplkibaaGreatDoorP32
import Derived.Test.YtoipjmjhplkibaaGreatDoorP41
import Derived.Test.YtoipjmjhplkibaaGreatDoorP29
/- A disk of the call's own and the document's files beside it: what each act of the law leaves. -/
namespace Go.Proofs.YtoipjmjhplkibaaGreatDoor
open Go.RowKit DiskMath
set_option maxRecDepth 100000
set_option linter.unusedSimpArgs false
set_option linter.unusedVariables false

/-- Blocks that are kept beside a disk of the call's own. -/
def Stay (K : List (Nat × Obj)) (S : Nat → Prop) (wr : World) : Prop := ∀ x ∈ K, ¬ S x.1 ∧ wr.heap[x.1]? = some x.2
theorem Stay.step {K : List (Nat × Obj)} {S S' : Nat → Prop} {w w' : World} (h : Stay K S w) (hs : Step S S' w) (hk : Kept S w w') : Stay K S' w' := fun x hx => by
  obtain ⟨h1, h2⟩ := h x hx
  have hl := (Array.getElem?_eq_some_iff.1 h2).1
  exact ⟨fun hb => (hs _ hb).elim h1 fun hb => by omega, (hk.block _ hl h1).trans h2⟩
theorem Stay.below {K : List (Nat × Obj)} {S : Nat → Prop} {w w' : World} (h : Stay K S w) (hb : Below w.heap.size w w') : Stay K S w' := fun x hx => by
  obtain ⟨h1, h2⟩ := h x hx
  exact ⟨h1, (hb.block _ (Array.getElem?_eq_some_iff.1 h2).1).trans h2⟩

/-- The program's disk has files fs', the document's list fs. -/
def Mid (K : List (Nat × Obj)) (w : World) (q : Nat) (lv : Value) (fs fs' : Files) (wr : World) : Prop :=
  ∃ S hS, Dk S wr (.pointer (some ⟨q, 0, none⟩)) fs' ∧ @Fv (keepBut S wr hS) wr lv fs ∧ (∀ b, S b → w.heap.size ≤ b) ∧ Below w.heap.size w wr ∧ SoundF fs ∧ (∀ f ∈ fs, ∀ c ∈ f.data, c < 256) ∧ Stay K S wr
def Both (K : List (Nat × Obj)) (w : World) (q : Nat) (lv : Value) (fs : Files) (wr : World) : Prop := Mid K w q lv fs fs wr

theorem mid_shape {K : List (Nat × Obj)} {w wr : World} {q : Nat} {lv : Value} {fs fs' : Files} (h : Mid K w q lv fs fs' wr) : (∃ ao cap, lv = .slice ao fs.length cap) ∧ Below w.heap.size w wr := by
  obtain ⟨S, hS, hD, hF, hSn, hb, -⟩ := h
  exact ⟨hF.shape, hb⟩
theorem Mid.below {K : List (Nat × Obj)} {w wr w' : World} {q : Nat} {lv : Value} {fs fs' : Files} (h : Mid K w q lv fs fs' wr) (hb : Below wr.heap.size wr w') : Mid K w q lv fs fs' w' := by
  obtain ⟨S, hS, hD, hF, hSn, hbw, hsd, hby, hst⟩ := h
  have hD' := diskOf.below hD hb
  have hF' : @Fv (keepBut S w' (diskOf.lt hD')) w' lv fs := (@Fv.below (keepBut S wr hS) _ _ _ _ hF hb).renew
  exact ⟨S, diskOf.lt hD', hD', hF', hSn, hbw.trans (hb.mono hbw.size), hsd, hby, hst.below hb⟩
/-- A box more is kept. -/
theorem Mid.box {K : List (Nat × Obj)} {w wr : World} {q : Nat} {lv : Value} {fs fs' : Files} (h : Mid K w q lv fs fs' wr) (o : Obj) : Mid ((wr.heap.size, o) :: K) w q lv fs fs' (wr.alloc o) := by
  have hb : Below wr.heap.size wr (wr.alloc o) := (Below.refl _ _).alloc (Nat.le_refl _) _
  obtain ⟨S, hS, hD, hF, hSn, hbw, hsd, hby, hst⟩ := h.below hb
  obtain ⟨S0, hS0, hD0, hF0, hSn0, hbw0, hsd0, hby0, hst0⟩ := h
  have hD' := diskOf.below hD0 hb
  have hF' : @Fv (keepBut S0 (wr.alloc o) (diskOf.lt hD')) (wr.alloc o) lv fs := (@Fv.below (keepBut S0 wr hS0) _ _ _ _ hF0 hb).renew
  refine ⟨S0, diskOf.lt hD', hD', hF', hSn0, hbw, hsd, hby, fun x hx => ?_⟩
  rcases List.mem_cons.1 hx with rfl | hx
  · exact ⟨fun hs => by have := hS0 _ hs; simp at this, heap_alloc_new wr o⟩
  · exact hst0.below hb x hx
theorem Mid.unbox {K : List (Nat × Obj)} {x : Nat × Obj} {w wr : World} {q : Nat} {lv : Value} {fs fs' : Files} (h : Mid (x :: K) w q lv fs fs' wr) : Mid K w q lv fs fs' wr := by
  obtain ⟨S, hS, hD, hF, hSn, hbw, hsd, hby, hst⟩ := h
  exact ⟨S, hS, hD, hF, hSn, hbw, hsd, hby, fun y hy => hst y (List.mem_cons_of_mem _ hy)⟩
theorem Mid.at {K : List (Nat × Obj)} {x : Nat × Obj} {w wr : World} {q : Nat} {lv : Value} {fs fs' : Files} (h : Mid K w q lv fs fs' wr) (hx : x ∈ K) : wr.heap[x.1]? = some x.2 := by
  obtain ⟨S, hS, hD, hF, hSn, hbw, hsd, hby, hst⟩ := h
  exact (hst x hx).2

/-- The disk was acted with. -/
theorem Mid.leaves {K : List (Nat × Obj)} {S : Nat → Prop} {w wr w' : World} {q : Nat} {lv : Value} {fs fs' : Files} {hS : ∀ b, S b → b < wr.heap.size} (hF : @Fv (keepBut S wr hS) wr lv fs) (hSn : ∀ b, S b → w.heap.size ≤ b) (hb : Below w.heap.size w wr) (hsd : SoundF fs) (hby : ∀ f ∈ fs, ∀ c ∈ f.data, c < 256) (hst : Stay K S wr) (hL : Leaves S wr (.pointer (some ⟨q, 0, none⟩)) fs' w') : Mid K w q lv fs fs' w' := by
  obtain ⟨S', h1, h2, h3⟩ := hL
  obtain ⟨h4, h5⟩ := fresh_step hSn hb.size h2 h3
  exact ⟨S', diskOf.lt h1, h1, hF.kept h3 h2, h4, hb.trans h5, hsd, hby, hst.step h2 h3⟩
/-- The document's list is another one. -/
theorem Mid.turn {K : List (Nat × Obj)} {S : Nat → Prop} {w wr w' : World} {q : Nat} {lv : Value} {fs fs' : Files} {hS : ∀ b, S b → b < wr.heap.size} (hD : Dk S wr (.pointer (some ⟨q, 0, none⟩)) fs') (hSn : ∀ b, S b → w.heap.size ≤ b) (hb : Below w.heap.size w wr) (hb' : Below wr.heap.size wr w') (hF : @Fv (keepBut S wr hS) w' lv fs) (hsd : SoundF fs) (hby : ∀ f ∈ fs, ∀ c ∈ f.data, c < 256) (hst : Stay K S wr) : Mid K w q lv fs fs' w' := by
  have hD' := diskOf.below hD hb'
  exact ⟨S, diskOf.lt hD', hD', hF.renew, hSn, hb.trans (hb'.mono hb.size), hsd, hby, hst.below hb'⟩

/-- What saving leaves, whatever the group and the snapshot. -/
def ssaveF (fs : Files) (g : Int) (i t : Nat) (l : List Nat) : Files × Nat := if (0 ≤ g ∧ g ≤ 999) ∧ i ≠ 0 ∧ l.length ≤ 32768 then saveF fs g.toNat (Fr.snB i t l) else (fs, 1)
/-- What Load tells, whatever the group. -/
def sloadT (fs : Files) (g : Int) : Nat × Nat × List Nat × Nat := if 0 ≤ g ∧ g ≤ 999 then loadT fs g.toNat else (0, 0, [], 1)

theorem save_both {K : List (Nat × Obj)} {w wr : World} {q : Nat} {lv : Value} {fs : Files} (hT : Tb w) (h : Both K w q lv fs wr) (g : Int) (i t : Nat) (l : List Nat) (a : Option Addr) (cp : Nat) (hi : i < 18446744073709551616) (ht : t < 18446744073709551616) (hly : ∀ c ∈ l, c < 256) (hB : Fr.Bs w.heap.size w (.slice a l.length cp) l) :
    Calls Tryz.prog 27 #[.pointer (some ⟨q, 0, none⟩), .int .i64 g, .int .u64 (i : Int), .int .u64 (t : Int), .slice a l.length cp] wr fun e w' => e = .returned (.int .i64 ((ssaveF fs g i t l).2 : Int)) ∧ Mid K w q lv fs (ssaveF fs g i t l).1 w' := by
  obtain ⟨S, hS, hD, hF, hSn, hb, hsd, hby, hst⟩ := h
  have hTr := hT.new hb
  have key : Calls Tryz.prog 27 #[.pointer (some ⟨q, 0, none⟩), .int .i64 g, .int .u64 (i : Int), .int .u64 (t : Int), .slice a l.length cp] wr (Did Dk S (.pointer (some ⟨q, 0, none⟩)) wr (ssaveF fs g i t l)) := by
    unfold ssaveF
    by_cases hgv : (0 ≤ g ∧ g ≤ 999) ∧ i ≠ 0 ∧ l.length ≤ 32768
    · rw [if_pos hgv]
      obtain ⟨hg, hi0, hll⟩ := hgv
      obtain ⟨m, rfl⟩ : ∃ m : Nat, g = (m : Int) := ⟨g.toNat, by omega⟩
      rw [Int.toNat_natCast]
      exact ssave_of m i t l a cp hTr hD (fun b hb' => Nat.le_trans hT.two (hSn b hb')) (by omega) hi hi0 ht hll hly fun w1 hk => by
        have hbk := hk.below hb.size hSn
        exact (hB.below (hb.trans hbk)).mono (Nat.le_trans hb.size hbk.size)
    · rw [if_neg hgv]
      refine ssave_arg g i t a l.length cp hD ?_
      by_cases hg : 0 ≤ g ∧ g ≤ 999
      · by_cases hi0 : i = 0
        · exact .inr (.inl hi0)
        · exact .inr (.inr (by
            by_cases hll : l.length ≤ 32768
            · exact absurd ⟨hg, hi0, hll⟩ hgv
            · omega))
      · exact .inl hg
  refine key.mono ?_
  rintro e w' ⟨he, hL⟩
  exact ⟨he, Mid.leaves hF hSn hb hsd hby hst hL⟩

theorem ref_both {K : List (Nat × Obj)} {w wr : World} {q : Nat} {lv : Value} {fs : Files} (g : Int) (i t : Nat) (l : List Nat) (ab : Option Addr) (cb : Nat) (h : Mid K w q lv fs (ssaveF fs g i t l).1 wr) (hi : i < 18446744073709551616) (ht : t < 18446744073709551616) (hly : ∀ c ∈ l, c < 256) (hB : Fr.Bs w.heap.size w (.slice ab l.length cb) l) :
    Calls Tryz.prog 28 #[lv, .int .i64 g, .agg #[.int .u64 (i : Int), .int .u64 (t : Int), .slice ab l.length cb]] wr fun e w' => ∃ a n p, e = .returned (.tuple #[.slice a n p, .int .i64 ((ssaveF fs g i t l).2 : Int)]) ∧ Both K w q (.slice a n p) (ssaveF fs g i t l).1 w' := by
  obtain ⟨S, hS, hD, hF, hSn, hb, hsd, hby, hst⟩ := h
  have key : Calls Tryz.prog 28 #[lv, .int .i64 g, .agg #[.int .u64 (i : Int), .int .u64 (t : Int), .slice ab l.length cb]] wr (@Told (keepBut S wr hS) wr (ssaveF fs g i t l)) := by
    unfold ssaveF
    by_cases hgv : (0 ≤ g ∧ g ≤ 999) ∧ i ≠ 0 ∧ l.length ≤ 32768
    · rw [if_pos hgv]
      obtain ⟨hg, hi0, hll⟩ := hgv
      obtain ⟨m, rfl⟩ : ∃ m : Nat, g = (m : Int) := ⟨g.toNat, by omega⟩
      rw [Int.toNat_natCast]
      exact @refSave_of (keepBut S wr hS) fs m i t l ab cb lv wr hF hsd (by omega) hi hi0 ht hll hly ((hB.below hb).mono hb.size)
    · rw [if_neg hgv]
      refine @refSave_no (keepBut S wr hS) fs g i t ab l.length cb lv wr hF ?_
      by_cases hg : 0 ≤ g ∧ g ≤ 999
      · by_cases hi0 : i = 0
        · exact .inr (.inl hi0)
        · exact .inr (.inr (by
            by_cases hll : l.length ≤ 32768
            · exact absurd ⟨hg, hi0, hll⟩ hgv
            · omega))
      · exact .inl hg
  refine key.mono ?_
  rintro e w' ⟨lv', rfl, hF', hb'⟩
  obtain ⟨a, p, rfl⟩ := hF'.shape
  exact ⟨a, _, p, rfl, Mid.turn hD hSn hb hb' hF' (diskOf.sound hD) hD.byte hst⟩

theorem load_both {K : List (Nat × Obj)} {w wr : World} {q : Nat} {lv : Value} {fs : Files} (hT : Tb w) (h : Both K w q lv fs wr) (g : Int) :
    Calls Tryz.prog 71 #[.pointer (some ⟨q, 0, none⟩), .int .i64 g] wr fun e w' => ∃ a n c, e = .returned (.tuple #[.int .u64 ((sloadT fs g).1 : Int), .int .u64 ((sloadT fs g).2.1 : Int), .slice a n c, .int .i64 ((sloadT fs g).2.2.2 : Int)]) ∧ Fr.Bs w'.heap.size w' (.slice a n c) (sloadT fs g).2.2.1 ∧ Both K w q lv fs w' := by
  obtain ⟨S, hS, hD, hF, hSn, hb, hsd, hby, hst⟩ := h
  unfold sloadT
  by_cases hg : 0 ≤ g ∧ g ≤ 999
  · obtain ⟨m, rfl⟩ : ∃ m : Nat, g = (m : Int) := ⟨g.toNat, by omega⟩
    rw [if_pos hg, Int.toNat_natCast]
    refine (sload_of m (hT.new hb) hD (fun b hb' => Nat.le_trans hT.two (hSn b hb')) (by omega)).mono ?_
    rintro e w' ⟨a, n, c, he, hB, hL⟩
    exact ⟨a, n, c, he, hB, Mid.leaves hF hSn hb hsd hby hst hL⟩
  · rw [if_neg hg]
    refine (sload_no g hD hg).mono ?_
    rintro e w' ⟨he, hL⟩
    exact ⟨none, 0, 0, he, Fr.Bs.nil _ _, Mid.leaves hF hSn hb hsd hby hst hL⟩

theorem crash_mid {K : List (Nat × Obj)} {w wr : World} {q : Nat} {lv cv : Value} {fs : Files} {cuts : List Int} (h : Both K w q lv fs wr) (hN : Nv w cv cuts) :
    Calls Tryz.prog 17 #[.pointer (some ⟨q, 0, none⟩), cv] wr fun e w' => e = .returned (.tuple #[]) ∧ Mid K w q lv fs (crash fs cuts) w' := by
  obtain ⟨S, hS, hD, hF, hSn, hb, hsd, hby, hst⟩ := h
  refine (diskOf.crash cv cuts hD fun w' hk => hN.below (hb.trans (hk.below hb.size hSn))).mono ?_
  rintro e w' ⟨he, hL⟩
  exact ⟨he, Mid.leaves hF hSn hb hsd hby hst hL⟩
theorem crash_ref {K : List (Nat × Obj)} {w wr : World} {q : Nat} {lv cv : Value} {fs : Files} {cuts : List Int} (h : Mid K w q lv fs (crash fs cuts) wr) (hN : Nv w cv cuts) :
    Calls Tryz.prog 19 #[lv, cv] wr fun e w' => ∃ a n p, e = .returned (.slice a n p) ∧ Both K w q (.slice a n p) (crash fs cuts) w' := by
  obtain ⟨S, hS, hD, hF, hSn, hb, hsd, hby, hst⟩ := h
  refine (@crash_of (keepBut S wr hS) fs cuts lv cv wr hF (hN.below hb) (by have := hsd.2.1; omega) (fun f hf => ⟨(hsd.2.2 f hf).2.2, (hsd.2.2 f hf).2.1⟩)).mono ?_
  rintro e w' ⟨ov, rfl, hO, hb'⟩
  have hF' : @Fv (keepBut S wr hS) w' ov (crash fs cuts) := @Fo.fv (keepBut S wr hS) _ _ _ _ hO
  obtain ⟨a, p, rfl⟩ := hF'.shape
  exact ⟨a, _, p, rfl, Mid.turn hD hSn hb hb' hF' (diskOf.sound hD) hD.byte hst⟩

/-- Both tell the same files. -/
theorem files_both {K : List (Nat × Obj)} {w wr : World} {q : Nat} {lv : Value} {fs : Files} (h : Both K w q lv fs wr) : Calls Tryz.prog 30 #[.pointer (some ⟨q, 0, none⟩)] wr fun e w' => ∃ a n p, e = .returned (.slice a n p) ∧ Both K w q lv fs w' ∧ Calls Tryz.prog 29 #[.slice a n p, lv] w' fun e w'' => e = .returned (.bool true) ∧ Both K w q lv fs w'' := by
  have hM := h
  obtain ⟨S, hS, hD, hF, hSn, hb, hsd, hby, hst⟩ := h
  refine (dfiles_of hD).mono ?_
  rintro e w' ⟨ov, rfl, hW, hb'⟩
  have hF1 : @Fv keepAll w' ov fs := @Fo.fv keepAll _ _ _ _ (@Fw.fo keepAll _ _ _ _ hW (Nat.zero_le _))
  have hF2 : @Fv keepAll w' lv fs := @Fv.below keepAll _ _ _ _ (hF.imp (fun _ _ _ => trivial) (Nat.zero_le _)) hb'
  obtain ⟨a, p, rfl⟩ := hW.shape
  have hM' := Mid.below hM hb'
  refine ⟨a, _, p, rfl, hM', (@sameF_of keepAll fs _ lv w' hF1 hF2 hby (by have := hsd.2.1; omega)).mono ?_⟩
  rintro e w'' ⟨he, hb''⟩
  exact ⟨he, Mid.below hM' hb''⟩

/-- What the document's own Read and Decode tell of a group's file. -/
theorem rd_both {K : List (Nat × Obj)} {w wr : World} {q : Nat} {lv : Value} {fs : Files} (h : Both K w q lv fs wr) (g : Nat) : Calls Tryz.prog 82 #[lv, .string (gName g)] wr fun e w' => w' = wr ∧ ∃ a n p, e = .returned (.tuple #[.slice a n p, .bool (get fs (gName g)).isSome]) ∧
    Calls Tryz.prog 83 #[.slice a n p] wr fun e w'' => ∃ a' n' c', e = .returned (.tuple #[.agg #[.int .u64 ((Fr.snOf (((get fs (gName g)).map Fl.data).getD [])).1 : Int), .int .u64 ((Fr.snOf (((get fs (gName g)).map Fl.data).getD [])).2.1 : Int), .slice a' n' c'], .bool (Fr.snOf (((get fs (gName g)).map Fl.data).getD [])).2.2.2]) ∧ Fr.Bs w''.heap.size w'' (.slice a' n' c') (Fr.snOf (((get fs (gName g)).map Fl.data).getD [])).2.2.1 ∧ Below wr.heap.size wr w'' := by
  letI := keepAll
  have hM := h
  obtain ⟨S, hS, hD, hF, hSn, hb, hsd, hby, hst⟩ := h
  have hF2 : @Fv keepAll wr lv fs := hF.imp (fun _ _ _ => trivial) (Nat.zero_le _)
  refine (@refRead_of keepAll fs (gName g) lv wr hF2 (by have := hsd.2.1; omega)).mono ?_
  rintro e w' ⟨hT, rfl⟩
  refine ⟨rfl, ?_⟩
  cases hg : get fs (gName g) with
  | none =>
    rw [hg] at hT
    refine ⟨none, 0, 0, hT, ?_⟩
    refine (Fr.refDecode_of w'.heap.size [] _ w' (Fr.Bs.nil _ _) (by simp) (Nat.le_refl _) (by simp)).mono ?_
    rintro e w'' ⟨a', n', c', he, hB', hb''⟩
    exact ⟨a', n', c', he, hB', hb''⟩
  | some f =>
    rw [hg] at hT
    obtain ⟨sv, he, hB⟩ := hT
    obtain ⟨a, p, rfl, -⟩ := id hB
    have hf := sound_get hsd hg
    refine ⟨a, _, p, he, ?_⟩
    refine (Fr.refDecode_of w'.heap.size f.data _ w' hB.toFr (hby f (get_mem hg)) (Nat.le_refl _) (by omega)).mono ?_
    rintro e w'' ⟨a', n', c', he, hB', hb''⟩
    exact ⟨a', n', c', he, hB', hb''⟩
end Go.Proofs.YtoipjmjhplkibaaGreatDoor

/- The contract of the law's loads: Load tells what a group's file is. -/
namespace Go.Proofs.YtoipjmjhplkibaaGreatDoor
open Go.RowKit DiskMath
set_option maxRecDepth 100000
set_option linter.unusedSimpArgs false
set_option linter.unusedVariables false

set_option maxHeartbeats 4000000 in
theorem loads_of {K : List (Nat × Obj)} {w wr : World} {q : Nat} {lv : Value} {fs : Files} (hT : Tb w) (h : Both K w q lv fs wr) (g : Int) :
    Calls Tryz.prog 31 #[.pointer (some ⟨q, 0, none⟩), lv, .int .i64 g] wr fun e w' => e = .returned (.bool true) ∧ Both K w q lv fs w' := by
  have kL := load_both hT h g
  have fin : ∀ W W', Both K w q lv fs W → Below W.heap.size W W' → Hid (Both K w q lv fs W') := fun W W' h1 h2 => Mid.below h1 h2
  have krd : ∀ W m, Both K w q lv fs W → _ := fun W m hW => rd_both hW m
  obtain ⟨⟨al, cl, rfl⟩, -⟩ := mid_shape h
  have hby : ∀ f ∈ fs, ∀ c ∈ f.data, c < 256 := by
    obtain ⟨S, hS, hD, hF, hSn, hb, hsd, hby, hst⟩ := h
    exact hby
  have hbel : ∀ W W', Both K w q (.slice al fs.length cl) fs W → Below W.heap.size W W' → Both K w q (.slice al fs.length cl) fs W' := fun W W' h1 h2 => Mid.below h1 h2
  generalize hBo : Both K w q (.slice al fs.length cl) fs = BO at *
  clear h hBo
  by_cases hg : 0 ≤ g ∧ g ≤ 999
  · obtain ⟨m, rfl⟩ : ∃ m : Nat, g = (m : Int) := ⟨g.toNat, by omega⟩
    have hm : m < 1000 := by omega
    have hmi : ¬ (m : Int) < 0 := by omega
    have hmj : ¬ (999 : Int) < (m : Int) := by omega
    have hD := fun W => digits_of m W hm
    have hk1 : ¬ 9223372036854775807 < 5 + (gDig m).size := by have := gDig_size hm; omega
    have HG : Hid ((⟨#[115, 110, 97, 112, 45]⟩ : ByteArray) ++ gDig m = gName m) := rfl
    have hsl : sloadT fs (m : Int) = loadT fs m := by unfold sloadT; rw [if_pos hg, Int.toNat_natCast]
    rw [hsl] at kL
    unfold loadT at kL
    cases hgt : get fs (gName m) with
    | none =>
      rw [hgt] at kL
      dsimp only at kL
      have krd' := fun W hW => krd W m hW
      rw [hgt] at krd'
      have e1 : Fr.snOf (((none : Option File).map Fl.data).getD []) = (0, 0, [], false) := rfl
      simp only [e1, Option.isSome_none] at krd'
      clear krd hsl hgt e1
      go_enter Tryz.func31, Tryz.ntmps31
      go_wp2_with fail
      refine kL.mono ?_
      rintro e w1 ⟨a1, n1, c1, rfl, hB1, hI1⟩
      have hn1 : n1 = 0 := by
        obtain ⟨_, _, e, -⟩ := hB1
        cases e
        rfl
      subst hn1
      have hD1 := hD w1
      clear kL hD hB1
      go_wp2_with fail
      refine hD1.mono ?_
      rintro e w2 ⟨rfl, hb2⟩
      have hI2 := hbel _ _ hI1 hb2
      have kR := krd' w2 hI2
      clear hD1 krd'
      go_wp2_with fail
      rw [HG.out]
      refine kR.mono ?_
      rintro e w2' ⟨hw2, a3, n3, c3, rfl, kD⟩
      rw [hw2]
      clear hw2 kR
      go_wp2_with fail
      refine kD.mono ?_
      rintro e w4 ⟨a4, n4, c4, rfl, hB4, hb4⟩
      have hE := fin _ _ hI2 (hb4.alloc (by have := hb4.size; omega) (.cells #[.int .u64 0, .int .u64 0, .slice a4 n4 c4] 57))
      clear kD fin hbel hB4
      go_wp2
      go_ret
      exact ⟨rfl, hE.out⟩
    | some f =>
      rw [hgt] at kL
      dsimp only at kL
      have hbf := hby f (get_mem hgt)
      have krd' := fun W hW => krd W m hW
      rw [hgt] at krd'
      simp only [Option.map_some, Option.getD_some, Option.isSome_some] at krd'
      clear krd hsl hgt
      cases hdc : Fr.snDec f.data with
      | none =>
        have e1 : Fr.snOf f.data = (0, 0, [], false) := by unfold Fr.snOf; rw [hdc]
        have e2 : Fr.snTold f.data = (0, 0, [], 5) := by unfold Fr.snTold; rw [hdc]
        rw [e2] at kL
        simp only [e1] at krd'
        dsimp only at kL
        clear e1 e2 hdc
        go_enter Tryz.func31, Tryz.ntmps31
        go_wp2_with fail
        refine kL.mono ?_
        rintro e w1 ⟨a1, n1, c1, rfl, hB1, hI1⟩
        have hn1 : n1 = 0 := by
          obtain ⟨_, _, e, -⟩ := hB1
          cases e
          rfl
        subst hn1
        have hD1 := hD w1
        clear kL hD hB1
        go_wp2_with fail
        refine hD1.mono ?_
        rintro e w2 ⟨rfl, hb2⟩
        have hI2 := hbel _ _ hI1 hb2
        have kR := krd' w2 hI2
        clear hD1 krd'
        go_wp2_with fail
        rw [HG.out]
        refine kR.mono ?_
        rintro e w2' ⟨hw2, a3, n3, c3, rfl, kD⟩
        rw [hw2]
        clear hw2 kR
        go_wp2_with fail
        refine kD.mono ?_
        rintro e w4 ⟨a4, n4, c4, rfl, hB4, hb4⟩
        have hE := fin _ _ hI2 (hb4.alloc (by have := hb4.size; omega) (.cells #[.int .u64 0, .int .u64 0, .slice a4 n4 c4] 57))
        clear kD fin hbel hB4
        go_wp2
        go_ret
        exact ⟨rfl, hE.out⟩
      | some x =>
        obtain ⟨i, t, b⟩ := x
        have hfb := (Fr.snDec_facts hbf hdc).2.2.2
        have e1 : Fr.snOf f.data = (i, t, b, true) := by unfold Fr.snOf; rw [hdc]
        have e2 : Fr.snTold f.data = (i, t, b, 0) := by unfold Fr.snTold; rw [hdc]
        rw [e2] at kL
        simp only [e1] at krd'
        dsimp only at kL
        clear e1 e2 hdc
        go_enter Tryz.func31, Tryz.ntmps31
        go_wp2_with fail
        refine kL.mono ?_
        rintro e w1 ⟨a1, n1, c1, rfl, hB1, hI1⟩
        have hB1' : Hid (Fr.Bs w1.heap.size w1 (.slice a1 n1 c1) b) := hB1
        have hD1 := hD w1
        clear kL hD hB1
        go_wp2_with fail
        refine hD1.mono ?_
        rintro e w2 ⟨rfl, hb2⟩
        have hI2 := hbel _ _ hI1 hb2
        have hB2 : Hid (Fr.Bs w1.heap.size w2 (.slice a1 n1 c1) b) := hB1'.out.below hb2
        have hs2 := hb2.size
        have kR := krd' w2 hI2
        clear hD1 krd' hB1'
        go_wp2_with fail
        rw [HG.out]
        refine kR.mono ?_
        rintro e w2' ⟨hw2, a3, n3, c3, rfl, kD⟩
        rw [hw2]
        clear hw2 kR
        go_wp2_with fail
        refine kD.mono ?_
        rintro e w4 ⟨a4, n4, c4, rfl, hB4, hb4⟩
        have hbx := (Below.refl w4.heap.size w4).alloc (Nat.le_refl _) (.cells #[.int .u64 (i : Int), .int .u64 (t : Int), .slice a4 n4 c4] 57)
        have hE := fin _ _ hI2 (hb4.trans (hbx.mono hb4.size))
        have s1 := Fr.str_of (hB2.out.below ((hb4.trans (hbx.mono hb4.size)).mono hs2)) hfb
        have s2 := Fr.str_of (hB4.below hbx) hfb
        clear kD fin hbel hB4 hB2 hbx
        go_wp2
        go_ret
        exact ⟨rfl, hE.out⟩
  · have hx : (g < 0) ∨ (¬ g < 0 ∧ 999 < g) := by omega
    have hsl : sloadT fs g = (0, 0, [], 1) := by unfold sloadT; rw [if_neg hg]
    rw [hsl] at kL
    dsimp only at kL
    clear hg hsl krd fin
    rcases hx with h | ⟨h, h'⟩ <;>
    (go_enter Tryz.func31, Tryz.ntmps31
     go_wp2_with fail
     refine kL.mono ?_
     rintro e w1 ⟨a1, n1, c1, rfl, -, hI1⟩
     clear kL
     go_wp2
     go_ret
     exact ⟨rfl, hI1⟩)
end Go.Proofs.YtoipjmjhplkibaaGreatDoor

