/- The reference's Walk and Turn, walked. -/
import Derived.Test.YtiiklklokkcnpaaDoorRef6
namespace Go.Proofs.YtiiklklokkcnpaaDoor
open Go.RowKit
set_option linter.unusedVariables false

theorem Rf.opened {w : World} {x : Value} {ls : List (List Nat)} (h : Rf w x ls) : ∃ b cap, x = .slice (some ⟨b, 0, none⟩) ls.length cap ∧ ∀ (i : Nat) (l : List Nat), ls[i]? = some l → ∃ g o c, l.length ≤ c ∧ c ≤ maxLen ∧ ∀ y, Below w.heap.size w y → y.cell? ⟨b, i, none⟩ = some (.slice (some ⟨g, o, none⟩) l.length c) ∧ Ro y (.slice (some ⟨g, o, none⟩) l.length c) l ∧ Ib y g o l := by
  obtain ⟨b, cap, cs, fr, rfl, h2, h3⟩ := h
  refine ⟨b, cap, rfl, fun i l hi => ?_⟩
  obtain ⟨u, hu, hR⟩ := h3 i l hi
  have hR' := hR
  obtain ⟨g, o, c, rfl, h4, h5, h6⟩ := hR
  refine ⟨g, o, c, h4, h5, fun y hy => ⟨?_, hR'.below hy, h6.keep (Keep.ofBelow hy)⟩⟩
  unfold World.cell?
  rw [hy.block b (Array.getElem?_eq_some_iff.1 h2).1, h2]
  exact hu

/-- One more row, or two, behind rows of one's own. -/
theorem rows_append {w0 w1 wa w2 : World} {base : Nat} {v v' : Value} {ls nl : List (List Nat)} {us nu : List Value} (hB : base ≤ w0.heap.size) (hb1 : Below base w0 w1) (hus : us.length = ls.length) (ho : w1.ownsRow base 47 1 v ls.length us) (hr : ∀ (i : Nat) (l : List Nat) (u : Value), ls[i]? = some l → us[i]? = some u → Ro w1 u l) (hnu : nu.length = nl.length) (hn : ∀ (i : Nat) (l : List Nat) (u : Value), nl[i]? = some l → nu[i]? = some u → Ro wa u l)
    (ba : Below w1.heap.size w1 wa) (ho2 : w2.ownsRow base 47 1 v' (ls.length + nl.length) (us ++ nu)) (hg : wa.grownBy w2 v.ownBlock) (hne : nl ≠ []) : Rf w2 v' (ls ++ nl) ∧ Below base w0 w2 := by
  have hoa := own_more ho ba
  have hb2 : Below base w0 w2 := below_grown (hb1.trans (ba.mono (Nat.le_trans hB hb1.size))) hB hoa (Nat.le_refl _) hg
  exact ⟨rf_of_own (Rg.push (w := wa) hus (fun i l u hi hu => (hr i l u hi hu).below ba) hnu hn hoa hg ho2) (by simp [hne]), hb2⟩

section
variable {K : Nat} {ls : List (List Nat)} {seq : Nat → List Nat}

theorem rot_from (p : Part K seq) {x k : Nat} (hx : x ≠ 0) (hk : (seq x)[k]? = some x) : (seq x).drop k ++ (seq x).take k = rot (seq x) x := (rot_at (p.nd x hx) hk).symm

set_option maxRecDepth 100000 in
set_option maxHeartbeats 1000000 in
theorem rwalk_ok (x : Value) (a : Nat) (w : World) (hx : Rf w x ls) (t : Tie K ls seq) (p : Part K seq) (hK : K ≤ 1000) (ha : a < K) :
    Calls Tryd.prog 36 #[x, .int .i64 (a : Int)] w fun e w' => ∃ v, e = .returned v ∧ w'.ownsRow w.heap.size 3 1 v (rot (seq (a + 1)) (a + 1)).length ((rot (seq (a + 1)) (a + 1)).map itm) ∧ Below w.heap.size w w' := by
  have hf := hid (hx.find t p hK a ha)
  have hlen := t.len
  obtain ⟨b, cap, rfl, hop⟩ := hx.opened
  obtain ⟨M, hM⟩ : ∃ M, ls.length = M := ⟨_, rfl⟩
  rw [hM] at hf hlen ⊢
  go_enter Tryd.func36, Tryd.ntmps36
  go_wp2_with fail
  refine hf.out.mono ?_
  rintro e w1 ⟨i, k, rfl, hi, hk, rfl⟩
  have hil := (List.getElem?_eq_some_iff.1 hi).1
  have hkl := (List.getElem?_eq_some_iff.1 hk).1
  have hfew := p.few (x := a + 1) (by omega) (by omega)
  obtain ⟨g, o, c, hc1, hc2, hcy⟩ := hop i _ hi
  obtain ⟨cell, hRo, _⟩ := hcy w (Below.refl _ _)
  have hfr := rfrom_ok _ _ k w hRo hkl (by omega)
  rw [rot_from p (by omega) hk] at hfr
  obtain ⟨nl, hnl⟩ : ∃ nl, (seq (a + 1)).length = nl := ⟨_, rfl⟩
  rw [hnl] at hfr cell
  replace hfr := hid hfr
  have i1 : (0 : Int) ≤ (i : Int) := by omega
  have i2 : (i : Int) < (M : Int) := by omega
  clear hf hop hcy hRo hi hk hM hnl
  go_wp2_with fail
  refine hfr.out.mono ?_
  rintro e w3 ⟨v3, rfl, ho3, b3⟩
  have fin := hid (And.intro ho3 b3)
  clear ho3 b3 hfr
  go_wp2_with fail
  go_ret
  exact ⟨v3, rfl, fin.out⟩

set_option maxRecDepth 100000 in
set_option maxHeartbeats 2000000 in
theorem rturn_ok (x : Value) (a : Nat) (w : World) (hx : Rf w x ls) (t : Tie K ls seq) (p : Part K seq) (hK : K ≤ 1000) (ha : a < K) :
    Calls Tryd.prog 16 #[x, .int .i64 (a : Int)] w fun e w' => ∃ x' ls', e = .returned x' ∧ Rf w' x' ls' ∧ Tie K ls' (turnS seq (a + 1)) ∧ Below w.heap.size w w' := by
  obtain ⟨i1, hif, hz0, hz1, hz2⟩ := info_parts infoInts
  have hf := hid (hx.find t p hK a ha)
  have hlen := t.len
  have hxd := hx.below (Below.refl w.heap.size w).drew
  obtain ⟨b, cap, rfl, hop⟩ := hx.opened
  obtain ⟨M, hM⟩ : ∃ M, ls.length = M := ⟨_, rfl⟩
  have hMh := hid hM
  rw [hM] at hf hlen hxd ⊢
  go_enter Tryd.func16, Tryd.ntmps16
  go_wp2_with fail
  refine hf.out.mono ?_
  rintro e w1 ⟨i, k, rfl, hi, hk, rfl⟩
  have hil := (List.getElem?_eq_some_iff.1 hi).1
  have hkl := (List.getElem?_eq_some_iff.1 hk).1
  have hfew := p.few (x := a + 1) (by omega) (by omega)
  obtain ⟨g, o, c, hc1, hc2, hcy⟩ := hop i _ hi
  have htie := hid (t.turn p (show a + 1 ≠ 0 by omega) (by omega) hi)
  have hwl := wo_len ls i i
  have hwi := hid (rwithout_ok _ ls i i w.drew hxd (by omega) (by omega) (by omega))
  have hrf := rot_from p (show a + 1 ≠ 0 by omega) hk
  obtain ⟨nl, hnl⟩ : ∃ nl, (seq (a + 1)).length = nl := ⟨_, rfl⟩
  have hnR : (rot (seq (a + 1)) (a + 1)).length = nl := by rw [rot_len, hnl]
  have hnp : 1 ≤ nl := by omega
  rw [hnl] at hcy hkl hc1 hfew
  have hcd := (hcy w.drew (Below.refl _ _).drew).1
  have hRne : rot (seq (a + 1)) (a + 1) ≠ [] := fun e => by rw [e] at hnR; simp at hnR; omega
  have hfr : Hid (∀ y, Below w.heap.size w y → Calls Tryd.prog 34 #[.slice (some ⟨g, o, none⟩) nl c, .int .i64 (k : Int)] y fun e w' => ∃ g3 c3, e = .returned (.slice (some ⟨g3, 0, none⟩) nl c3) ∧ Ro w' (.slice (some ⟨g3, 0, none⟩) nl c3) (rot (seq (a + 1)) (a + 1)) ∧ Below y.heap.size y w') := hid (fun y hy => by
    refine (rfrom_ok _ _ k y (hcy y hy).2.1 (by rw [hnl]; exact hkl) (by rw [hnl]; omega)).mono ?_
    rintro e w' ⟨v, rfl, ho, hb⟩
    rw [hrf] at ho
    have hRo := ro_of_own ho hRne
    have hRo' := hRo
    obtain ⟨g3, o3, c3, rfl, _, _, _⟩ := hRo
    rcases ho.2 with ⟨e, _⟩ | ⟨g4, c4, _, e, _⟩
    · cases e
    · injection e with e1 e2 e3
      injection e1 with e1
      injection e1 with e1 e4
      subst e4
      rw [hnR] at hRo' ⊢
      exact ⟨g3, c3, rfl, hRo', hb⟩)
  have hcy := hid (fun y hy => (hcy y hy).1)
  have bd := (Below.refl w.heap.size w).drew
  have q1 : (0 : Int) ≤ (i : Int) := by omega
  have q2 : (i : Int) < (M : Int) := by omega
  replace hwl := hid hwl
  have hne : Hid (∀ y, Below w.heap.size w y → w.heap.size ≤ y.heap.size) := hid (fun y hy => hy.size)
  clear hf hop hi hk hM hnl hxd hrf hnR
  go_wp2_with fail
  go_region_held3 (fun w' => w'.cell? ⟨b, i, none⟩ = some (.slice (some ⟨g, o, none⟩) nl c)) (first | assumption | go_keep) (first
    | (go_at_call 35; refine hwi.out.mono ?_; rintro e w2 ⟨v2, rfl, rg2, b2⟩; have b2 := bd.trans b2; have c2 := hcy.out w2 b2; have hfr2 := hid (hfr.out w2 b2); have rg2 := hid rg2; have b2 := hid b2)
    | (go_at_call 34; refine hfr2.out.mono ?_; rintro e w3 ⟨g3, c3, rfl, hRo3, b3⟩; have B3 : Below w.heap.size w w3 := b2.out.trans (b3.mono b2.out.size); have c3' := hcy.out w3 B3; obtain ⟨us, hus, ho3, hr3⟩ := rg2.out.more b3; have hn3 : (wo ls i i).length ≤ 1000 := (by have := hwl.out; have := hMh.out; omega); have ba3 : Below w3.heap.size w3 (w3.alloc (.cells [Value.slice (some ⟨g3, 0, none⟩) nl c3].toArray 47)) := (Below.refl _ _).alloc (Nat.le_refl _) _; have hoa := own_more ho3 ba3; have hnews := new_cells (us := [Value.slice (some ⟨g3, 0, none⟩) nl c3]) (heap_alloc_new w3 (.cells [Value.slice (some ⟨g3, 0, none⟩) nl c3].toArray 47)); have hszb := Nat.le_trans B3.size ba3.size; have hRo3 := hid hRo3; have hr3 := hid hr3; have B3 := hid B3)
    | (refine step_append_own rfl (.tmp 16) (.tmp 23) 29 rfl w.heap.size 47 i1 _ 1 24 Tryd.underlying29 hif hz0 hz1 hz2 rfl (by decide) v2 (wo ls i i).length us (by rfl) hoa ⟨w3.heap.size, 0, none⟩ 1 1 [Value.slice (some ⟨g3, 0, none⟩) nl c3] (by rfl) rfl hnews (by simp [Value.oneCell']) (by unfold maxLen; omega) (by omega) hszb ?_; intro v4 w4 ho4 hg4; have fin := hid (rows_append (nl := [rot (seq (a + 1)) (a + 1)]) (Nat.le_refl _) B3.out hus ho3 hr3.out rfl (fun j l u hj hu => (by match j, (List.getElem?_eq_some_iff.1 hj).1, hj, hu with | 0, _, hj, hu => (simp at hj hu; subst hj hu; exact hRo3.out.below ba3))) ba3 ho4 hg4 (by simp)); have c4 := hcy.out w4 fin.out.2; clear ho4 hg4))
  all_goals
    go_wp2_with fail
    go_ret
    exact ⟨v4, _, rfl, fin.out.1, htie.out, fin.out.2⟩
end

end Go.Proofs.YtiiklklokkcnpaaDoor
