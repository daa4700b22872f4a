import Derived.Test.YtoipjmjhplkibaaDoorQ02
import Derived.Lib.ItoaNum
/- A group's name, and what saving leaves of files: plain mathematics. -/
namespace Go.Proofs.YtoipjmjhplkibaaDoor
open Go.RowKit DiskMath
set_option maxRecDepth 100000
set_option linter.unusedSimpArgs false

theorem dec_one {n : Nat} (h : n < 10) : Lib.decDigits n = [UInt8.ofNat (48 + n)] := by rw [Lib.decDigits, dif_pos h]
theorem dec_more {n : Nat} (h : ¬ n < 10) : Lib.decDigits n = Lib.decDigits (n / 10) ++ [UInt8.ofNat (48 + n % 10)] := by rw [Lib.decDigits, dif_neg h]
theorem dec_three {n : Nat} (h : n < 1000) : 1 ≤ (Lib.decDigits n).length ∧ (Lib.decDigits n).length ≤ 3 ∧ ∀ c ∈ Lib.decDigits n, 48 ≤ c.toNat ∧ c.toNat ≤ 57 := by
  have hd : ∀ x, x < 10 → (UInt8.ofNat (48 + x)).toNat = 48 + x := fun x hx => by rw [UInt8.toNat_ofNat', Nat.mod_eq_of_lt (by omega)]
  have one : ∀ m, m < 10 → ∀ c ∈ [UInt8.ofNat (48 + m)], 48 ≤ c.toNat ∧ c.toNat ≤ 57 := fun m hm c hc => by
    obtain rfl : c = UInt8.ofNat (48 + m) := by simpa using hc
    rw [hd m hm]
    omega
  by_cases h1 : n < 10
  · rw [dec_one h1]
    exact ⟨by simp, by simp, one n h1⟩
  · by_cases h2 : n < 100
    · rw [dec_more h1, dec_one (n := n / 10) (by omega)]
      refine ⟨by simp, by simp, fun c hc => ?_⟩
      rcases List.mem_append.1 hc with hc | hc
      · exact one _ (by omega) c hc
      · exact one _ (by omega) c hc
    · rw [dec_more h1, dec_more (n := n / 10) (by omega), dec_one (n := n / 10 / 10) (by omega)]
      refine ⟨by simp, by simp, fun c hc => ?_⟩
      rcases List.mem_append.1 hc with hc | hc
      · rcases List.mem_append.1 hc with hc | hc
        · exact one _ (by omega) c hc
        · exact one _ (by omega) c hc
      · exact one _ (by omega) c hc

/-- A group's digits, its file's name, and its new file's. -/
def gDig (g : Nat) : ByteArray := ⟨(Lib.decDigits g).toArray⟩
def gPre : ByteArray := ⟨#[115, 110, 97, 112, 45]⟩
def gSuf : ByteArray := ⟨#[46, 110, 101, 119]⟩
def gName (g : Nat) : ByteArray := gPre ++ gDig g
def nName (g : Nat) : ByteArray := gName g ++ gSuf

theorem gName_list (g : Nat) : (gName g).data.toList = [115, 110, 97, 112, 45] ++ Lib.decDigits g := by
  simp [gName, gPre, gDig, ByteArray.data_append]
theorem nName_list (g : Nat) : (nName g).data.toList = [115, 110, 97, 112, 45] ++ Lib.decDigits g ++ [46, 110, 101, 119] := by
  simp [nName, gSuf, gName, gPre, gDig, ByteArray.data_append]
theorem gDig_size {g : Nat} (h : g < 1000) : (gDig g).size ≤ 3 := by
  show (Lib.decDigits g).toArray.size ≤ 3
  simpa using (dec_three h).2.1
theorem gName_size {g : Nat} (h : g < 1000) : (gName g).size ≤ 8 := by
  show (gName g).data.size ≤ 8
  rw [← Array.length_toList, gName_list]
  have := (dec_three h).2.1
  simp
  omega
theorem nName_size {g : Nat} (h : g < 1000) : (nName g).size ≤ 12 := by
  show (nName g).data.size ≤ 12
  rw [← Array.length_toList, nName_list]
  have := (dec_three h).2.1
  simp
  omega
theorem may_of_list {s : ByteArray} (h1 : 1 ≤ s.data.toList.length) (h2 : s.data.toList.length ≤ 32) (h3 : ∀ c ∈ s.data.toList, mayByte c.toNat = true) : mayName s = true := by
  have e : s.size = s.data.toList.length := by rw [Array.length_toList]; rfl
  unfold mayName
  rw [e]
  simp only [Bool.and_eq_true, decide_eq_true_eq, List.all_eq_true]
  exact ⟨⟨h1, h2⟩, h3⟩
theorem dig_may {g : Nat} (h : g < 1000) : ∀ c ∈ Lib.decDigits g, mayByte c.toNat = true := fun c hc => by
  have := (dec_three h).2.2 c hc
  unfold mayByte
  simp
  omega
theorem pre_may : ∀ c ∈ ([115, 110, 97, 112, 45] : List UInt8), mayByte c.toNat = true := by decide
theorem suf_may : ∀ c ∈ ([46, 110, 101, 119] : List UInt8), mayByte c.toNat = true := by decide
theorem gName_may {g : Nat} (h : g < 1000) : mayName (gName g) = true := by
  have h3 := dec_three h
  refine may_of_list ?_ ?_ ?_ <;> rw [gName_list]
  · simp
  · simp; omega
  · intro c hc
    rcases List.mem_append.1 hc with hc | hc
    · exact pre_may c hc
    · exact dig_may h c hc
theorem nName_may {g : Nat} (h : g < 1000) : mayName (nName g) = true := by
  have h3 := dec_three h
  refine may_of_list ?_ ?_ ?_ <;> rw [nName_list]
  · simp
  · simp; omega
  · intro c hc
    rcases List.mem_append.1 hc with hc | hc
    · rcases List.mem_append.1 hc with hc | hc
      · exact pre_may c hc
      · exact dig_may h c hc
    · exact suf_may c hc

/-- What saving bytes leaves: the files, and the error that is told. -/
def saveF (fs : Files) (g : Nat) (b : List Nat) : Files × Nat :=
  if (dAppend (dCut fs (nName g) 0).1 (nName g) b).2 = 0 then
    ((dRename (dSync (dAppend (dCut fs (nName g) 0).1 (nName g) b).1 (nName g)).1 (nName g) (gName g)).1, 0)
  else ((dCut fs (nName g) 0).1, 2)

theorem append_err {fs : Files} {n : ByteArray} {b : List Nat} (h : (dAppend fs n b).2 ≠ 0) : (dAppend fs n b).1 = fs := by
  unfold dAppend at h ⊢
  by_cases hm : mayName n = false
  · rw [if_pos hm]
  · rw [if_neg hm] at h ⊢
    cases hg : get fs n with
    | none =>
      rw [hg] at h
      dsimp only at h ⊢
      split at h
      · rename_i g; rw [if_pos g]
      · exact absurd rfl h
    | some f =>
      rw [hg] at h
      dsimp only at h ⊢
      split at h
      · rename_i g; rw [if_pos g]
      · exact absurd rfl h

/-- What was saved is in the group's file. -/
theorem save_get {fs : Files} (hs : SoundF fs) {g : Nat} (hg : g < 1000) {b : List Nat} (h : (saveF fs g b).2 = 0) : get (saveF fs g b).1 (gName g) = some ⟨gName g, b, b.length⟩ := by
  unfold saveF at h ⊢
  by_cases ha : (dAppend (dCut fs (nName g) 0).1 (nName g) b).2 = 0
  · rw [if_pos ha] at h ⊢
    have hs1 : SoundF (dCut fs (nName g) 0).1 := sound_cut hs _ _
    have hc : ∀ f, get (dCut fs (nName g) 0).1 (nName g) = some f → f.data = [] := by
      intro f hf
      unfold dCut at hf
      cases hg1 : get fs (nName g) with
      | none => rw [hg1] at hf; dsimp only at hf; rw [hg1] at hf; cases hf
      | some f0 =>
        rw [hg1] at hf
        dsimp only at hf
        rw [if_neg (by omega)] at hf
        have := put_get (O := strOrd) (f := ⟨nName g, f0.data.take (0 : Int).toNat, min f0.safe (0 : Int).toNat⟩) (nName g) hs.1
        rw [if_pos rfl] at this
        unfold putF at hf
        rw [this] at hf
        cases hf
        rfl
    generalize (dCut fs (nName g) 0).1 = fs1 at *
    have hA : ∃ k, get (dAppend fs1 (nName g) b).1 (nName g) = some ⟨nName g, b, k⟩ := by
      unfold dAppend at ha ⊢
      rw [if_neg (by rw [nName_may hg]; simp)] at ha ⊢
      cases hg1 : get fs1 (nName g) with
      | none =>
        rw [hg1] at ha
        dsimp only at ha ⊢
        split at ha
        · cases ha
        · rename_i hn
          rw [if_neg hn]
          exact ⟨0, by unfold putF; rw [put_get _ hs1.1, if_pos rfl]⟩
      | some f0 =>
        rw [hg1] at ha
        dsimp only at ha ⊢
        split at ha
        · cases ha
        · rename_i hn
          rw [if_neg hn]
          refine ⟨f0.safe, ?_⟩
          unfold putF
          rw [put_get _ hs1.1, if_pos rfl, hc f0 hg1, List.nil_append]
    have hs2 : SoundF (dAppend fs1 (nName g) b).1 := sound_append hs1 _ _
    generalize (dAppend fs1 (nName g) b).1 = fs2 at *
    obtain ⟨k, hA⟩ := hA
    have hY : get (dSync fs2 (nName g)).1 (nName g) = some ⟨nName g, b, b.length⟩ := by
      unfold dSync
      rw [hA]
      dsimp only
      unfold putF
      rw [put_get _ hs2.1, if_pos rfl]
    have hs3 : SoundF (dSync fs2 (nName g)).1 := sound_sync hs2 _
    generalize (dSync fs2 (nName g)).1 = fs3 at *
    unfold dRename
    rw [hY]
    dsimp only
    rw [if_neg (by rw [gName_may hg]; simp)]
    unfold putF
    rw [put_get _ (out_rises hs3.1), if_pos rfl]
  · rw [if_neg ha] at h
    cases h
theorem save_sound {fs : Files} (hs : SoundF fs) (g : Nat) (b : List Nat) : SoundF (saveF fs g b).1 := by
  unfold saveF
  split
  · exact sound_rename (sound_sync (sound_append (sound_cut hs _ _) _ _) _) _ _
  · exact sound_cut hs _ _
/-- A crash leaves a file that is safe whole. -/
theorem crash_whole {n : ByteArray} {f : File} : ∀ {fs : Files} {cuts : List Int}, get fs n = some f → f.safe = f.data.length → get (crash fs cuts) n = some f
  | [], _, h, _ => by cases h
  | x :: fs, cuts, h, hs => by
    have e : ∀ y : Option Int, x = f → crashOne x y = f := fun y hx => by
      subst hx
      have hb := left_bounds x y (by omega)
      have hl : left x y = x.data.length := by omega
      unfold crashOne
      rw [hl, List.take_length]
      cases x
      simp at hs
      simp [hs]
    have hn : ∀ y : Option Int, (crashOne x y).name = x.name := fun y => rfl
    rw [get_cons] at h
    have hc : crash (x :: fs) cuts = crashOne x cuts.head? :: crash fs cuts.tail := by cases cuts <;> rfl
    rw [hc, get_cons, hn]
    split at h
    · rename_i hx
      rw [if_pos hx, e _ (Option.some.inj h)]
    · rename_i hx
      rw [if_neg hx]
      exact crash_whole h hs
end Go.Proofs.YtoipjmjhplkibaaDoor

