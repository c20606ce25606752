/- 'SeqLeast', walked. -/
import Derived.Test.YtcbkebllbchpiabDoorBuiltS4
import Derived.Test.YtcbkebllbchpiabDoorFirst4
namespace Go.Proofs.YtcbkebllbchpiabDoor
open Go.RowKit
set_option linter.unusedVariables false

/-- What a row of items holds, where it is not empty. -/
theorem Rw.holds {w : World} {u : Value} {l : List Nat} (h : Rw w u l) (hl : l ≠ []) : ∃ g cap, u = .slice (some ⟨g, 0, none⟩) l.length cap ∧ ∀ y, Rw y u l → ∀ (j d : Nat), l[j]? = some (d + 1) → y.cell? ⟨g, j, none⟩ = some (.int .i64 (d : Int)) := by
  obtain ⟨ad, cap, rfl, hn, hc⟩ := h.form
  cases ad with
  | none => exact absurd (hn rfl) hl
  | some a =>
    obtain ⟨g, rfl, _⟩ := hc a rfl
    refine ⟨g, cap, rfl, fun y hy j d hd => ?_⟩
    obtain ⟨ad', cap', e, _, hc'⟩ := hy.form
    injection e with e1 _ _
    obtain ⟨g', e2, hc''⟩ := hc' ⟨g, 0, none⟩ e1.symm
    cases e2
    rw [hc'' j (d + 1) hd]
    unfold itm; congr 2; omega

/-- The first i of a row are set above all, the others are small. -/
structure Mid (v : Nat → Int) (S : List Nat) (i : Nat) : Prop where
  all : ∀ z, -1099511627776 ≤ v z ∧ (v z ≤ 1099511627776 ∨ v z = 4611686018427387904)
  top : ∀ j d, j < i → S[j]? = some d → v d = 4611686018427387904

theorem Mid.low {v : Nat → Int} {S : List Nat} {i d : Nat} (h : Mid v S i) : In64 (setV v d (-4611686018427387904)) S := fun z _ => by
  have := h.all z
  unfold setV; split <;> omega
theorem Mid.in64 {v : Nat → Int} {S : List Nat} {i : Nat} (h : Mid v S i) : In64 v S := fun z _ => by
  have := h.all z
  omega
theorem Mid.least {v : Nat → Int} {S A B : List Nat} {i d p : Nat} (h : Mid v S i) (hd : S[i]? = some d) (he : setV v d (-4611686018427387904) p = lowV (setV v d (-4611686018427387904)) S) : p = d := by
  have h1 := lowV_mem (setV v d (-4611686018427387904)) S d (List.mem_of_getElem? hd)
  rw [← he] at h1
  have h2 := h.all p
  rcases Nat.decEq p d with hne | heq
  · simp [setV, hne] at h1
    omega
  · exact heq
theorem Mid.next {v : Nat → Int} {S : List Nat} {i d : Nat} (h : Mid v S i) (hd : S[i]? = some d) : Mid (setV (setV v d (-4611686018427387904)) d 4611686018427387904) S (i + 1) := by
  refine ⟨fun z => ?_, fun j e hj he => ?_⟩
  · have := h.all z
    by_cases hz : z = d
    · simp [setV, hz]
    · simp [setV, hz]; omega
  · by_cases hz : e = d
    · simp [setV, hz]
    · simp [setV, hz]
      refine h.top j e ?_ he
      rcases Nat.lt_or_ge j i with h1 | h1
      · exact h1
      · have : j = i := by omega
        subst this
        rw [hd] at he; injection he with he; exact absurd he.symm hz
theorem Mid.most {v : Nat → Int} {S A B : List Nat} {i d p : Nat} (h : Mid v S (i + 1)) (hd : S[i]? = some d) (hS : S = A ++ p :: B) (hp : v p = highV v S) (hA : ∀ z, z ∈ A → v z ≠ highV v S) : S[0]? = some p := by
  have h1 := highV_mem v S d (List.mem_of_getElem? hd)
  rw [h.top i d (by omega) hd, ← hp] at h1
  have h2 := h.all p
  have h3 : v p = 4611686018427387904 := by omega
  cases A with
  | nil => rw [hS]; rfl
  | cons a A =>
    have h4 := h.top 0 a (by omega) (by rw [hS]; rfl)
    exact absurd (by rw [h4, ← hp, h3]) (hA a (by simp))

set_option maxRecDepth 100000 in
set_option maxHeartbeats 8000000 in
theorem least_law (n : Int) (ad : Option Addr) (qs : List Act4) (cap : Nat) (o : Int) (w : World) (hg : Handle w) (hq : Acts w ad qs) :
    Calls Tryd.prog 3 #[.int .i64 n, .slice ad qs.length cap, .int .i64 o] w fun e w' => e = .returned (.bool true) ∧ Below w.heap.size w w' := by
  obtain ⟨K, hK, hK1, hK2⟩ := mod_up n 20 (by decide) (by decide)
  have hK20 : K ≤ 20 := by omega
  have hql := hq.bound
  obtain ⟨a, ha, haK⟩ := mod_inN o K hK1 (by omega)
  have hbu := hid (builtS_ok K ad qs cap w hK1 (by omega) hq)
  have hg : Hid (Handle w) := hid hg
  clear hq
  go_enter Tryd.func3, Tryd.ntmps3
  go_wp2_with fail
  try rw [hK]
  refine hbu.out.mono ?_
  rintro e w1 ⟨fb, rfl, v, seq, hsm, h1⟩
  have p1 := hid h1.part
  obtain ⟨X, hX⟩ : ∃ X, a + 1 = X := ⟨_, rfl⟩
  have hX0 : X ≠ 0 := by omega
  obtain ⟨S, hS⟩ : ∃ S, seq X = S := ⟨_, rfl⟩
  have hm0 : Mid v S 0 := ⟨fun z => by have := hsm z; omega, fun j d hj => absurd hj (by omega)⟩
  have hSl : S.length ≤ 8388610 := by rw [← hS]; exact p1.out.len X hX0
  have hSne : S ≠ [] := fun e => by have := p1.out.self X hX0; rw [hS, e] at this; cases this
  have hSp : 1 ≤ S.length := by
    cases S with
    | nil => exact absurd rfl hSne
    | cons _ _ => simp
  have hSm : Hid (∀ d, d + 1 ∈ S → d < K ∧ seq (d + 1) = S) := hid (fun d hd => by
    rw [← hS] at hd
    exact ⟨by have := p1.out.le X (d + 1) hX0 (by omega) hd; omega, by rw [(p1.out.mem X (d + 1) hX0 hd).1, hS]⟩)
  have hSz : Hid (∀ d, d ∈ S → d ≠ 0) := hid (fun d hd => (p1.out.mem X d hX0 (by rw [hS]; exact hd)).2)
  have hl1 := h1.least a haK
  rw [hX, hS] at hl1
  have hl1 := hid (hl1 hm0.in64)
  have hm0 := hid hm0
  clear hbu hK h1 hsm
  go_wp2_with fail
  try rw [ha]
  refine hl1.out.mono ?_
  rintro e w2 ⟨dl, ⟨A, B, hA, _⟩, rfl, h2, _⟩
  have hdl := hid (hSm.out dl (by rw [hA]; simp))
  have hl2 := h2.most a haK
  rw [hX, hS] at hl2
  have hl2 := hid (hl2 hm0.out.in64)
  clear hl1 hA h2
  go_wp2_with fail
  refine hl2.out.mono ?_
  rintro e w3 ⟨dm, ⟨A, B, hA, _⟩, rfl, h3, _⟩
  have hdm := hid (hSm.out dm (by rw [hA]; simp))
  have hl3 := h3.list a haK
  rw [hX, hS] at hl3
  have hl3 := hid hl3
  clear hl2 hA h3
  go_wp2_with fail
  refine hl3.out.mono ?_
  rintro e w4 ⟨u4, rfl, r4, h4, _⟩
  obtain ⟨g4, c4, hu4, hx4⟩ := r4.holds hSne
  subst hu4
  have hx4 := hid hx4
  have tS : ((S.length : Int) == 0) = false := by rw [beq_eq_false_iff_ne]; omega
  have st4 : Hid (∃ v, Mid v S 0 ∧ FS w.heap.size w fb K v seq w4 ∧ Rw w4 (.slice (some ⟨g4, 0, none⟩) S.length c4) S) := hid ⟨v, hm0.out, h4, r4⟩
  clear hl3 h4 r4 hm0 ha
  go_wp2_with fail
  go_loopw [16, 17, 18, 19, 20] (fun u _ _ _ _ wr => ∃ i : Nat, i ≤ S.length ∧ u = .int .i64 (i : Int) ∧ Hid (∃ v, Mid v S i ∧ FS w.heap.size w fb K v seq wr ∧ Rw wr (.slice (some ⟨g4, 0, none⟩) S.length c4) S)) (fun u _ _ _ _ _ => S.length - (intOf u).toNat)
  case atStart => exact ⟨0, by omega, by go_num, st4⟩
  case round =>
    clear st4
    obtain ⟨i, hi, rfl, hst⟩ := hrel
    obtain ⟨v, hm, h5, r5⟩ := hst.out
    clear hst
    rcases Nat.lt_or_ge i S.length with hil | hig
    · obtain ⟨d1, hd1⟩ : ∃ d1, S[i]? = some d1 := ⟨_, List.getElem?_eq_getElem hil⟩
      have hd1n : d1 ≠ 0 := hSz.out d1 (List.mem_of_getElem? hd1)
      obtain ⟨d, rfl⟩ : ∃ d, d1 = d + 1 := ⟨d1 - 1, by omega⟩
      obtain ⟨hdK, hdS⟩ := hSm.out d (List.mem_of_getElem? hd1)
      obtain ⟨f1, hf1⟩ : ∃ f1, S[0]? = some f1 := ⟨_, List.getElem?_eq_getElem (by omega)⟩
      have hf1n : f1 ≠ 0 := hSz.out f1 (List.mem_of_getElem? hf1)
      obtain ⟨f, rfl⟩ : ∃ f, f1 = f + 1 := ⟨f1 - 1, by omega⟩
      have ca := hx4.out _ r5 i d hd1
      have i1 : (0 : Int) ≤ (i : Int) := by omega
      have i2 : (i : Int) < (S.length : Int) := by omega
      have i3 : (0 : Int) < (S.length : Int) := by omega
      have hs5 := hid (h5.set d hdK (-4611686018427387904))
      have hm := hid hm
      have r5 := hid r5
      have hd1 := hid hd1
      have hf1 := hid hf1
      clear h5 hdS
      go_wp2_with fail
      refine hs5.out.mono ?_
      rintro e w6 ⟨rfl, h6, k6⟩
      have r6 := hid (r5.out.keep k6)
      have hl6 := h6.least a haK
      rw [hX, hS] at hl6
      have hl6 := hid (hl6 hm.out.low)
      clear ca hs5 r5 h6 k6
      go_wp2_with fail
      refine hl6.out.mono ?_
      rintro e w7 ⟨d7, ⟨A, B, hA, hlo, _⟩, rfl, h7, k7⟩
      have e7 : d7 = d := by have := hm.out.least (A := A) (B := B) hd1.out hlo; omega
      subst e7
      have r7 := hid (r6.out.keep k7)
      have cb := hx4.out _ r7.out i d7 hd1.out
      have hs7 := hid (h7.set d7 hdK 4611686018427387904)
      clear hl6 hA hlo r6 h7 k7
      go_wp2_with fail
      refine hs7.out.mono ?_
      rintro e w8 ⟨rfl, h8, k8⟩
      have hm8 := hid (hm.out.next hd1.out)
      have r8 := hid (r7.out.keep k8)
      have hl8 := h8.most a haK
      rw [hX, hS] at hl8
      have hl8 := hid (hl8 hm8.out.in64)
      clear cb hs7 r7 h8 k8 hm
      go_wp2_with fail
      refine hl8.out.mono ?_
      rintro e w9 ⟨d9, ⟨A, B, hA, hhi, hno⟩, rfl, h9, k9⟩
      have e9 : d9 = f := by
        have := hm8.out.most hd1.out hA hhi hno
        rw [hf1.out] at this; injection this with this; omega
      subst e9
      have r9 := hid (r8.out.keep k9)
      have cc := hx4.out _ r9.out 0 d9 hf1.out
      have st9 : Hid (∃ v, Mid v S (i + 1) ∧ FS w.heap.size w fb K v seq w9 ∧ Rw w9 (.slice (some ⟨g4, 0, none⟩) S.length c4) S) := hid ⟨_, hm8.out, h9, r9.out⟩
      clear hl8 hA hhi hno r8 h9 k9 hm8 r9
      go_wp2_with fail
      go_roundw
      case rel => exact ⟨i + 1, by omega, by go_num, st9⟩
      case measure => simp [intOf]; omega
    · have hs5 := h5.same dl a hdl.out.1 haK
      rw [hX, hS, hdl.out.2, decide_eq_true rfl] at hs5
      have hs5 := hid hs5
      clear h5 r5 hm
      go_wp2_with fail
      refine hs5.out.mono ?_
      rintro e w6 ⟨rfl, h6, _⟩
      have hs6 := h6.same dm a hdm.out.1 haK
      rw [hX, hS, hdm.out.2, decide_eq_true rfl] at hs6
      have hs6 := hid hs6
      clear h6 hs5
      go_wp2_with fail
      refine hs6.out.mono ?_
      rintro e w7 ⟨rfl, h7, _⟩
      have h7 := hid h7
      clear hs6
      go_wp2_with fail
      refine (sure_ok _ (h7.out.handle hg.out rfl)).mono ?_
      rintro e w9 ⟨rfl, b9⟩
      have h9 := hid (h7.out.more b9)
      clear b9
      go_wp2_with fail
      go_ret
      exact ⟨rfl, h9.out.below⟩

end Go.Proofs.YtcbkebllbchpiabDoor
