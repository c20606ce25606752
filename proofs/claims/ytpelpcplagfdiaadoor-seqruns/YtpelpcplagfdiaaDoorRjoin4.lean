/- The reference's Reverse and Join, walked. -/
import Derived.Test.YtpelpcplagfdiaaDoorRcut4
namespace Go.Proofs.YtpelpcplagfdiaaDoor
open Go.RowKit
set_option linter.unusedVariables false

section
variable {K : Nat} {ls : List (List Nat)} {seq : Nat → List Nat}

set_option maxRecDepth 100000 in
set_option maxHeartbeats 4000000 in
theorem rrev_ok (x : Value) (a : Nat) (w : World) (hx : Rf w x ls) (t : Tie K ls seq) (p : Part K seq) (hK : K ≤ 1000) (ha : a < K) :
    Calls Tryd.prog 11 #[x, .int .i64 (a : Int)] w fun e w' => ∃ x' ls', e = .returned x' ∧ Rf w' x' ls' ∧ Tie K ls' (revS seq (a + 1)) ∧ Below w.heap.size w w' := by
  obtain ⟨i0, jif, jz0, jz1, jz2⟩ := info_parts infoInt
  obtain ⟨i1, hif, hz0, hz1, hz2⟩ := info_parts infoInts
  have hf := hid (hx.find t p hK a ha)
  have hlen := t.len
  have hxr : Hid (∀ y, Below w.heap.size w y → Rf y x ls) := hid (fun y hy => hx.below hy)
  obtain ⟨bo, cap, rfl, hop⟩ := hx.opened
  obtain ⟨M, hM⟩ : ∃ M, ls.length = M := ⟨_, rfl⟩
  have hMh := hid hM
  rw [hM] at hf hlen hxr ⊢
  have hfew := p.few (x := a + 1) (by omega) (by omega)
  obtain ⟨L, hL⟩ : ∃ L, seq (a + 1) = L := ⟨_, rfl⟩
  have hself := p.self (a + 1) (by omega)
  have hnz : Hid (∀ z ∈ L, z ≠ 0) := hid (fun z hz => (p.mem (a + 1) z (by omega) (by rw [hL]; exact hz)).2)
  obtain ⟨nl, hnl⟩ : ∃ nl, L.length = nl := ⟨_, rfl⟩
  rw [hL, hnl] at hfew
  have hnp : 0 < nl := by
    rw [hL] at hself
    rw [← hnl]
    cases L with
    | nil => cases hself
    | cons _ _ => simp
  clear hM hself
  go_enter Tryd.func11, Tryd.ntmps11
  go_wp2_with fail
  refine hf.out.mono ?_
  rintro e w1 ⟨i, k, rfl, hi, hk, rfl⟩
  have hil := (List.getElem?_eq_some_iff.1 hi).1
  have htie := hid (t.rev p (show a + 1 ≠ 0 by omega) (by omega) hi)
  obtain ⟨g, o, c, hc1, hc2, hcy⟩ := hop i _ hi
  rw [hL] at hcy hc1 htie
  rw [hnl] at hcy hc1
  have hwl : (wo ls i i).length ≤ 1000 := by have := wo_len ls i i; have := hMh.out; omega
  have hwi : Hid (∀ y, Below w.heap.size w y → Calls Tryd.prog 26 #[.slice (some ⟨bo, 0, none⟩) M cap, .int .i64 (i : Int), .int .i64 (i : Int)] y fun e w' => ∃ v, e = .returned v ∧ Rg w' y.heap.size v (wo ls i i) ∧ Below y.heap.size y w') := hid (fun y hy => rwithout_ok _ ls i i y (hxr.out y hy) (by have := hMh.out; omega) (by have := hMh.out; omega) (by have := hMh.out; omega))
  have hcell := hid (fun y hy => (hcy y hy).1)
  have hIb := hid (fun y hy => (hcy y hy).2.2)
  have q1 : (0 : Int) ≤ (i : Int) := by omega
  have q2 : (i : Int) < (M : Int) := by have := hMh.out; omega
  have cw := hcell.out w (Below.refl _ _)
  have hnlh := hid hnl
  have hw0 : wrap64 ((nl : Int) - 1) = (nl : Int) - 1 := by unfold wrap64; omega
  clear hop hcy hi hk hil hf hnl hL
  go_wp2_with fail
  go_loopw [7, 8] (fun v u wr => ∃ j : Nat, j ≤ nl ∧ u = .int .i64 ((nl : Int) - 1 - (j : Int)) ∧ Hid (wr.ownsRow w.heap.size 3 1 v j ((L.reverse.take j).map itm) ∧ Below w.heap.size w wr)) (fun _ u _ => (intOf u + 1).toNat)
  case atStart => exact ⟨0, by omega, by go_num, World.ownsRow_nil _ _ _ _, Below.refl _ _⟩
  case round =>
    obtain ⟨j, hj, rfl, hst⟩ := hrel
    rcases Nat.lt_or_ge j nl with hjl | hjg
    · obtain ⟨kk, hkk⟩ : ∃ kk, nl - 1 - j = kk := ⟨_, rfl⟩
      have ek : (nl : Int) - 1 - (j : Int) = (kk : Int) := by omega
      obtain ⟨z, hz⟩ : ∃ z, L[kk]? = some z := ⟨_, List.getElem?_eq_getElem (by rw [hnlh.out]; omega)⟩
      have hz0' := hnz.out z (List.mem_of_getElem? hz)
      obtain ⟨y, rfl⟩ : ∃ y, z = y + 1 := ⟨z - 1, by omega⟩
      have hrv : Hid (L.reverse.take (j + 1) = L.reverse.take j ++ [y + 1]) := hid (by
        rw [List.take_add_one, List.getElem?_reverse (by rw [hnlh.out]; exact hjl), hnlh.out, hkk, hz]; rfl)
      have hown := hst.out.1
      have hb := hst.out.2
      have hsz := hb.size
      have cc := (hIb.out wr hb).cell hz
      rw [show itm (y + 1) = .int .i64 (y : Int) from by unfold itm; congr 1; omega] at cc
      have cr := hcell.out wr hb
      rw [ek]
      have q3 : (0 : Int) ≤ (kk : Int) := by omega
      have q4 : (kk : Int) < (nl : Int) := by omega
      have ekh := hid ek
      clear hz ek hkk
      go_wp2_with (at_builtin; refine wpList_append_own _ rfl (.tmp 25) (.tmp 33) 58 rfl w.heap.size 3 i0 _ 1 8 Tryd.underlying58 jif jz0 jz1 jz2 rfl (by decide) _ _ _ rfl (hown.alloc _) ⟨wr.heap.size, 0, none⟩ 1 1 [.int .i64 (y : Int)] rfl rfl (new_cells (us := [.int .i64 (y : Int)]) (heap_alloc_new wr _)) (by simp [Value.oneCell']) (by unfold maxLen; omega) (by omega) (by simp; omega) ?_; intro v5 w5 ho5 hg5 _; refine Hid.out ?_)
      have st5 : Hid (w5.ownsRow w.heap.size 3 1 v5 (j + 1) ((L.reverse.take (j + 1)).map itm) ∧ Below w.heap.size w w5) := hid ⟨by
        rw [hrv.out, List.map_append]
        rw [show [y + 1].map itm = [.int .i64 (y : Int)] from by simp [itm]]
        exact ho5, below_grown (hb.alloc hsz _) (Nat.le_refl _) (hown.alloc _) (Nat.le_refl _) hg5⟩
      clear ho5 hg5 hown hb cc cr
      refine hid ?_
      go_wp2_with fail
      go_roundw
      case rel => exact ⟨j + 1, by omega, by have := ekh.out; go_num, st5⟩
      case measure => have := ekh.out; simp [intOf] <;> omega
    · obtain rfl : j = nl := by omega
      have t1 : decide ((0 : Int) ≤ (j : Int) - 1 - (j : Int)) = false := decide_eq_false (by omega)
      have t2 : (j : Int) - 1 - (j : Int) = -1 := by omega
      have hfull : L.reverse.take j = L.reverse := List.take_of_length_le (by rw [List.length_reverse, hnlh.out]; exact Nat.le_refl _)
      have hown := hst.out.1
      have hb := hst.out.2
      rw [hfull] at hown
      have hlr : L.reverse.length = j := by rw [List.length_reverse]; exact hnlh.out
      have hRo := ro_of_own (l := L.reverse) (by rw [hlr]; exact hown) (fun e => by rw [e] at hlr; simp at hlr; omega)
      rw [t2]
      obtain ⟨g3, o3, c3, hv, _, _, _⟩ := id hRo
      rw [hlr] at hv
      subst hv
      replace hRo := hid hRo
      have hbh := hid hb
      clear hfull hown hst hlr
      go_wp2_with fail
      refine (hwi.out wr hbh.out).mono ?_
      rintro e w4 ⟨v4, rfl, rg4, b4⟩
      obtain ⟨us, hus, ho4, hr4⟩ := rg4
      have ba4 : Below w4.heap.size w4 (w4.alloc (.cells [Value.slice (some ⟨g3, o3, none⟩) j c3].toArray 58)) := (Below.refl _ _).alloc (Nat.le_refl _) _
      have hoa := own_more ho4 ba4
      have hnews := new_cells (us := [Value.slice (some ⟨g3, o3, none⟩) j c3]) (heap_alloc_new w4 (.cells [Value.slice (some ⟨g3, o3, none⟩) j c3].toArray 58))
      have hR4 := hid ((hRo.out.below b4).below ba4)
      have hszb : wr.heap.size ≤ (w4.alloc (.cells [Value.slice (some ⟨g3, o3, none⟩) j c3].toArray 58)).heap.size := Nat.le_trans b4.size ba4.size
      replace hr4 := hid hr4
      go_wp2_with (at_builtin; refine wpList_append_own _ rfl (.tmp 38) (.tmp 40) 29 rfl wr.heap.size 58 i1 _ 1 24 Tryd.underlying29 hif hz0 hz1 hz2 rfl (by decide) v4 (wo ls i i).length us rfl hoa ⟨w4.heap.size, 0, none⟩ 1 1 [Value.slice (some ⟨g3, o3, none⟩) j c3] rfl rfl hnews (by simp [Value.oneCell']) (by unfold maxLen; omega) (by omega) hszb ?_; intro v5 w5 ho5 hg5 _; refine Hid.out ?_)
      have fin := hid (rows_append (nl := [L.reverse]) (Nat.le_refl wr.heap.size) b4 hus ho4 hr4.out rfl (fun q l u hq hu => by
        match q, (List.getElem?_eq_some_iff.1 hq).1, hq, hu with
        | 0, _, hq, hu => simp at hq hu; subst hq hu; exact hR4.out) ba4 ho5 hg5 (by simp))
      clear ho5 hg5 hoa hnews ba4 b4 ho4 hb
      refine hid ?_
      go_wp2_with fail
      go_ret
      exact ⟨v5, _, rfl, fin.out.1, htie.out, hbh.out.trans (fin.out.2.mono hbh.out.size)⟩

set_option maxRecDepth 100000 in
set_option maxHeartbeats 1000000 in
theorem rjoin_same (x : Value) (a b : Nat) (w : World) (hx : Rf w x ls) (t : Tie K ls seq) (p : Part K seq) (hK : K ≤ 1000) (ha : a < K) (hb : b < K) (he : seq (a + 1) = seq (b + 1)) :
    Calls Tryd.prog 14 #[x, .int .i64 (a : Int), .int .i64 (b : Int)] w fun e w' => e = .returned (.tuple #[x, .bool false]) ∧ w = w' := by
  have hf := hid (hx.find t p hK a ha)
  have hg := hid (hx.find t p hK b hb)
  have hal := hid (fun (i j : Nat) (hi : ls[i]? = some (seq (a + 1))) (hj : ls[j]? = some (seq (b + 1))) => t.alone hi (by rw [he]; exact hj))
  clear he
  go_enter Tryd.func14, Tryd.ntmps14
  go_wp2_with fail
  refine hf.out.mono ?_
  rintro e w1 ⟨i, k, rfl, hi, _, rfl⟩
  replace hi := hid hi
  go_wp2_with fail
  refine hg.out.mono ?_
  rintro e w1 ⟨j, m, rfl, hj, _, rfl⟩
  obtain rfl := hal.out i j hi.out hj
  clear hj
  go_wp2_with fail
  go_ret2
  exact ⟨rfl, rfl⟩

set_option maxRecDepth 100000 in
set_option maxHeartbeats 4000000 in
theorem rjoin_ok (x : Value) (a b : Nat) (w : World) (hx : Rf w x ls) (t : Tie K ls seq) (p : Part K seq) (hK : K ≤ 1000) (ha : a < K) (hb : b < K) (he : seq (a + 1) ≠ seq (b + 1)) :
    Calls Tryd.prog 14 #[x, .int .i64 (a : Int), .int .i64 (b : Int)] w fun e w' => ∃ x' ls', e = .returned (.tuple #[x', .bool true]) ∧ Rf w' x' ls' ∧ Tie K ls' (joinS seq (a + 1) (b + 1)) ∧ Below w.heap.size w w' := by
  obtain ⟨i0, jif, jz0, jz1, jz2⟩ := info_parts infoInt
  obtain ⟨i1, hif, hz0, hz1, hz2⟩ := info_parts infoInts
  have hf := hid (hx.find t p hK a ha)
  have hg := hid (hx.find t p hK b hb)
  have hlen := t.len
  have hxr : Hid (∀ y, Below w.heap.size w y → Rf y x ls) := hid (fun y hy => hx.below hy)
  obtain ⟨bo, cap, rfl, hop⟩ := hx.opened
  obtain ⟨M, hM⟩ : ∃ M, ls.length = M := ⟨_, rfl⟩
  have hMh := hid hM
  rw [hM] at hf hg hlen hxr ⊢
  have hfa := p.few (x := a + 1) (by omega) (by omega)
  have hfb := p.few (x := b + 1) (by omega) (by omega)
  have hsa := p.self (a + 1) (by omega)
  have htj := hid (fun (i j : Nat) (hi : ls[i]? = some (seq (a + 1))) (hj : ls[j]? = some (seq (b + 1))) => t.join p (show a + 1 ≠ 0 by omega) (by omega) (show b + 1 ≠ 0 by omega) (by omega) hi hj)
  obtain ⟨A, hA⟩ : ∃ A, seq (a + 1) = A := ⟨_, rfl⟩
  obtain ⟨B, hB⟩ : ∃ B, seq (b + 1) = B := ⟨_, rfl⟩
  rw [hA] at hf hfa he htj hsa
  rw [hB] at hg hfb he htj
  obtain ⟨na, hna⟩ : ∃ n, A.length = n := ⟨_, rfl⟩
  obtain ⟨nb, hnb⟩ : ∃ n, B.length = n := ⟨_, rfl⟩
  have hnep : A ++ B ≠ [] := fun e => by rw [List.append_eq_nil_iff] at e; rw [e.1] at hsa; cases hsa
  replace he := hid he
  clear hM hA hB hsa
  go_enter Tryd.func14, Tryd.ntmps14
  go_wp2_with fail
  refine hf.out.mono ?_
  rintro e w1 ⟨i, k, rfl, hi, _, rfl⟩
  replace hi := hid hi
  go_wp2_with fail
  refine hg.out.mono ?_
  rintro e w1 ⟨j, m, rfl, hj, _, rfl⟩
  replace hi := hi.out
  have hij : i ≠ j := fun e => he.out (by rw [e, hj] at hi; injection hi with hi; exact hi.symm)
  have tij : ((i : Int) == (j : Int)) = false := by rw [beq_eq_false_iff_ne]; omega
  have hil := (List.getElem?_eq_some_iff.1 hi).1
  have hjl := (List.getElem?_eq_some_iff.1 hj).1
  have htie := hid (htj.out i j hi hj)
  obtain ⟨ga, oa, ca, ha1, ha2, hcya⟩ := hop i _ hi
  obtain ⟨gb, ob, cb, hb1, hb2, hcyb⟩ := hop j _ hj
  rw [hna] at hcya ha1 hfa
  rw [hnb] at hcyb hb1 hfb
  have hwl : (wo ls i j).length ≤ 1000 := by have := wo_len ls i j; have := hMh.out; omega
  have hwi : Hid (∀ y, Below w.heap.size w y → Calls Tryd.prog 26 #[.slice (some ⟨bo, 0, none⟩) M cap, .int .i64 (i : Int), .int .i64 (j : Int)] y fun e w' => ∃ v, e = .returned v ∧ Rg w' y.heap.size v (wo ls i j) ∧ Below y.heap.size y w') := hid (fun y hy => rwithout_ok _ ls i j y (hxr.out y hy) (by have := hMh.out; omega) (by have := hMh.out; omega) (by have := hMh.out; omega))
  have hcells := hid (fun y hy => And.intro (hcya y hy).1 (hcyb y hy).1)
  have hIa := hid (fun y hy => (hcya y hy).2.2.sl)
  have hIb := hid (fun y hy => (hcyb y hy).2.2.sl)
  have hla : (A.map itm).length = na * 1 := by rw [List.length_map, hna]; omega
  have hlb : (B.map itm).length = nb * 1 := by rw [List.length_map, hnb]; omega
  have q1 : (0 : Int) ≤ (i : Int) := by omega
  have q2 : (i : Int) < (M : Int) := by have := hMh.out; omega
  have q3 : (0 : Int) ≤ (j : Int) := by omega
  have q4 : (j : Int) < (M : Int) := by have := hMh.out; omega
  have hnab : Hid ((A ++ B).length = na + nb) := hid (by rw [List.length_append, hna, hnb])
  obtain ⟨cwa, cwb⟩ := hcells.out w (Below.refl _ _)
  clear hop hcya hcyb hi hj hil hjl hf hg hna hnb
  go_wp2_with fail
  go_region_held3 (fun y => y.cell? ⟨bo, i, none⟩ = some (.slice (some ⟨ga, oa, none⟩) na ca) ∧ y.cell? ⟨bo, j, none⟩ = some (.slice (some ⟨gb, ob, none⟩) nb cb)) (first | assumption | exact ⟨cwa, cwb⟩ | go_keep) (first
    | (go_at_call 26; refine (hwi.out w.drew (Below.refl _ _).drew).mono ?_; rintro e w4 ⟨v4, rfl, rg4, b4⟩; have b34 : Below w.heap.size w w4 := (Below.refl w.heap.size w).drew.trans b4; have c4 := hcells.out w4 b34; obtain ⟨us, hus, ho4, hr4⟩ := rg4; have hr4 := hid hr4; have s4 := hIa.out w4 b34)
    | (refine step_append_own rfl (.tmp 33) (.tmp 37) 58 rfl w4.heap.size 3 i0 _ 1 8 Tryd.underlying58 jif jz0 jz1 jz2 rfl (by decide) (.slice none 0 0) 0 [] (by rfl) (World.ownsRow_nil _ _ _ _) ⟨ga, oa, none⟩ na ca (A.map itm) (by rfl) hla s4 (itm_one _) (by unfold maxLen; omega) (by omega) (Nat.le_refl _) ?_; intro v5 w5 ho5 hg5; have b45 : Below w4.heap.size w4 w5 := below_grown (Below.refl w4.heap.size w4) (Nat.le_refl _) (World.ownsRow_nil w4 w4.heap.size 3 1) (Nat.le_refl _) hg5; have b35 : Below w.heap.size w w5 := b34.trans (b45.mono b34.size); have c5 := hcells.out w5 b35; have s5 := hIb.out w5 b35; have z5 := b45.size)
    | (refine step_append_own rfl (.tmp 38) (.tmp 42) 58 rfl w4.heap.size 3 i0 _ 1 8 Tryd.underlying58 jif jz0 jz1 jz2 rfl (by decide) v5 (0 + na) ([] ++ A.map itm) (by rfl) ho5 ⟨gb, ob, none⟩ nb cb (B.map itm) (by rfl) hlb s5 (itm_one _) (by unfold maxLen; omega) (by omega) z5 ?_; intro v6 w6 ho6 hg6; have b46 : Below w4.heap.size w4 w6 := below_grown b45 (Nat.le_refl _) ho5 (Nat.le_refl _) hg6; have b36 : Below w.heap.size w w6 := b34.trans (b46.mono b34.size); have c6 := hcells.out w6 b36; have ho6' : w6.ownsRow w4.heap.size 3 1 v6 (A ++ B).length ((A ++ B).map itm) := (by rw [hnab.out, List.map_append, show na + nb = 0 + na + nb by omega]; exact ho6); have hRo := ro_of_own ho6' hnep; obtain ⟨g6, o6, c6', hv6, _⟩ := id hRo; rw [hnab.out] at hv6; subst hv6; have ba6 : Below w6.heap.size w6 (w6.alloc (.cells [Value.slice (some ⟨g6, o6, none⟩) (na + nb) c6'].toArray 58)) := (Below.refl _ _).alloc (Nat.le_refl _) _; have b47 := b46.trans (ba6.mono b46.size); have hoa := own_more ho4 b47; have hnews := new_cells (us := [Value.slice (some ⟨g6, o6, none⟩) (na + nb) c6']) (heap_alloc_new w6 (.cells [Value.slice (some ⟨g6, o6, none⟩) (na + nb) c6'].toArray 58)); have hszb : w.heap.size ≤ (w6.alloc (.cells [Value.slice (some ⟨g6, o6, none⟩) (na + nb) c6'].toArray 58)).heap.size := Nat.le_trans b36.size ba6.size; have c7 := hcells.out (w6.alloc (.cells [Value.slice (some ⟨g6, o6, none⟩) (na + nb) c6'].toArray 58)) (b36.trans (ba6.mono b36.size)); have hR7 := hid (hRo.below ba6); clear ho6 hg6 ho6' hRo)
    | (refine step_append_own rfl (.tmp 32) (.tmp 44) 29 rfl w.heap.size 58 i1 _ 1 24 Tryd.underlying29 hif hz0 hz1 hz2 rfl (by decide) v4 (wo ls i j).length us (by rfl) hoa ⟨w6.heap.size, 0, none⟩ 1 1 [Value.slice (some ⟨g6, o6, none⟩) (na + nb) c6'] (by rfl) rfl hnews (by simp [Value.oneCell']) (by unfold maxLen; omega) (by omega) hszb ?_; intro v8 w8 ho8 hg8; have fin := hid (rows_append (nl := [A ++ B]) (Nat.le_refl w.heap.size) b34 hus ho4 hr4.out rfl (fun q l u hq hu => (by match q, (List.getElem?_eq_some_iff.1 hq).1, hq, hu with | 0, _, hq, hu => (simp at hq hu; subst hq hu; simpa using hR7.out))) b47 ho8 hg8 (by simp)); have c8 := hcells.out w8 fin.out.2; clear ho8 hg8))
  all_goals
    go_wp2_with fail
    go_ret2
    exact ⟨v8, _, rfl, fin.out.1, htie.out, fin.out.2⟩
end

end Go.Proofs.YtpelpcplagfdiaaDoor
