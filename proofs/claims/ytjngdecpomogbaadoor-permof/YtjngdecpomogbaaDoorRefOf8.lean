/- The document's Of, walked. -/
import Derived.Test.YtjngdecpomogbaaDoorOf8
import Derived.Test.YtjngdecpomogbaaDoorOpen8
namespace Go.Proofs.YtjngdecpomogbaaDoor
open Go.RowKit
set_option linter.unusedVariables false

/-- Integers as cells; a row of them of one's own. -/
def zcs (l : List Int) : List Value := l.map (fun i => .int .i64 i)
@[simp] theorem zcs_length (l : List Int) : (zcs l).length = l.length := by simp [zcs]
theorem zcs_append (a b : List Int) : zcs (a ++ b) = zcs a ++ zcs b := by simp [zcs]
def RwI (base : Nat) (w : World) (v : Value) (l : List Int) : Prop := w.ownsRow base 3 1 v l.length (zcs l)

theorem RwI.iv {base : Nat} {w : World} {v : Value} {l : List Int} (h : RwI base w v l) : IV w v l := by
  have h' : w.ownsRow base 3 1 v l.length (zcs l) := h
  rcases h'.2 with ⟨rfl, h0⟩ | ⟨g, cap, cur, rfl, _, hg, h1, h2, _⟩
  · have : l = [] := List.eq_nil_of_length_eq_zero h0
    subst this
    exact ⟨none, 0, 0, rfl, rfl, by omega, fun j z hz => by simp at hz⟩
  · refine ⟨some ⟨g, 0, none⟩, l.length, cap, rfl, rfl, by unfold maxLen at h2; omega, fun j z hz => ?_⟩
    refine ⟨g, 0, rfl, ?_⟩
    have hj := (List.getElem?_eq_some_iff.1 hz).1
    rw [Nat.zero_add, h'.cellAt j (by omega)]
    simp [zcs, hz]

/-- Where a number goes, as far as one has looked. -/
def tt (g : Nat → Nat) (x : Nat) (A : List Nat) : Nat := if x ∈ A then g x else x

theorem tt_hit (g : Nat → Nat) (x : Nat) (A : List Nat) : tt g x (A ++ [x]) = g x := by unfold tt; rw [if_pos (by simp)]
theorem tt_miss (g : Nat → Nat) {x z : Nat} (A : List Nat) (h : z ≠ x) : tt g x (A ++ [z]) = tt g x A := by
  unfold tt
  by_cases e : x ∈ A
  · rw [if_pos e, if_pos (by simp [e])]
  · rw [if_neg e, if_neg (by simp [e]; exact fun h2 => h h2.symm)]

theorem Nx.tt {n : Nat} {ms : List (List Nat)} {g : Nat → Nat} (h : Nx n ms g) {x : Nat} (hx : x < n) : Go.Proofs.YtjngdecpomogbaaDoor.tt g x ms.flatten = g x := by
  unfold Go.Proofs.YtjngdecpomogbaaDoor.tt
  by_cases e : x ∈ ms.flatten
  · rw [if_pos e]
  · rw [if_neg e, h.off x hx e]

theorem wrap_mod1 (a D : Nat) (hD : 1 ≤ D) (hD2 : D ≤ 1000) (ha : a ≤ 100000) : (IntKind.i64.wrap ((a : Int) + 1)).tmod (D : Int) = (((a + 1) % D : Nat) : Int) := by
  rw [show IntKind.i64.wrap ((a : Int) + 1) = ((a + 1 : Nat) : Int) from by rw [IntWalk.i64_in _ ⟨by omega, by omega⟩]; omega, Int.tmod_eq_emod_of_nonneg (by omega)]
  omega

set_option maxRecDepth 100000 in
set_option maxHeartbeats 8000000 in
theorem rof_ok (v : Value) (n : Nat) (ls : List (List Int)) (g : Nat → Nat) (w : World) (hv : RV w v ls) (hg : ∀ ms, ls = cls ms → Cs n ms → Nx n ms g) (hn : n ≤ 1000) (hm : ls.length ≤ 1000) (hF : ls.flatten.length ≤ 1000) (hc : ∀ c, c ∈ ls → c.length ≤ 1000) :
    Calls Tryd.prog 23 #[.int .i64 (n : Int), v] w fun e w' => ∃ u r, e = .returned (.tuple #[u, .bool r]) ∧ (r = true ↔ Dj n ls) ∧ (r = true → Rw w.heap.size w' u (fl n g)) ∧ Below w.heap.size w w' := by
  obtain ⟨i0, hif, hz0, hz1, hz2⟩ := info_parts infoInt
  obtain ⟨ad, m, cap, rfl, ha⟩ := hv
  have hl := hid ha.len
  rw [ha.len] at hm
  replace ha := hid ha
  replace hg := hid hg
  replace hc := hid hc
  have hFj : Hid (∀ j, (ls.take j).flatten.length ≤ 1000) := fun j => by
    have : ls.flatten.length = (ls.take j).flatten.length + (ls.drop j).flatten.length := by
      conv => lhs; rw [← List.take_append_drop j ls, List.flatten_append, List.length_append]
    omega
  go_enter Tryd.func23, Tryd.ntmps23
  go_wp2_with fail
  go_loopw [6, 7] (fun a u wr => ∃ j : Nat, j ≤ m ∧ u = .int .i64 (j : Int) ∧ Hid (RwI w.heap.size wr a (ls.take j).flatten ∧ (∀ c, c ∈ ls.take j → c ≠ []) ∧ Below w.heap.size w wr))
    (fun _ u _ => m - (intOf u).toNat)
  case atStart => exact ⟨0, by omega, by go_num, World.ownsRow_nil _ _ _ _, fun c h => by simp at h, Below.refl _ _⟩
  case round =>
    obtain ⟨j, hj, rfl, hst⟩ := hrel
    rcases Nat.lt_or_ge j m with hlt | hge
    · obtain ⟨c, hcj⟩ : ∃ c, ls[j]? = some c := ⟨_, List.getElem?_eq_getElem (by rw [hl.out]; exact hlt)⟩
      obtain ⟨hrow, hne, hbw⟩ := hst.out
      obtain ⟨b1, o1, u1, rfl, q0, I1⟩ := ha.out.cell j c hcj
      have q1 := (hbw.cell (World.block_lt_of_cell? w _ q0)).trans q0
      have hcl := hc.out c (List.mem_of_getElem? hcj)
      have htk := hid (ltake hcj)
      obtain ⟨ac, d, cc, rfl, sc0⟩ := I1
      have sc := sc0.below hbw
      have hd := sc.len
      rw [hd] at hcl
      have i1 : (0 : Int) ≤ (j : Int) := by omega
      have i2 : (j : Int) < (m : Int) := by omega
      by_cases h0 : d = 0
      · subst h0
        have hno : Hid (¬ Dj n ls) := fun h => h.1 c (List.mem_of_getElem? hcj) (List.eq_nil_of_length_eq_zero hd)
        replace hbw := hid hbw
        clear hst hd hcj hrow hne sc sc0 q0
        go_wp2_with fail
        go_ret2
        exact ⟨_, _, rfl, by simp; exact hno.out, by simp, hbw.out⟩
      · have t1 : ((d : Int) == 0) = false := by simp; omega
        have t2 : ¬ ((d : Int) = 0) := by omega
        obtain ⟨z0, hz0'⟩ : ∃ z0, c[0]? = some z0 := ⟨_, List.getElem?_eq_getElem (by omega)⟩
        obtain ⟨bc, oc, rfl, _⟩ := sc.cell 0 z0 hz0'
        have hnews : ∀ i u, (zcs c)[i]? = some u → wr.cell? ((⟨bc, oc, none⟩ : Addr).add i) = some u := fun i u hu => by
          unfold zcs at hu
          rw [List.getElem?_map] at hu
          obtain ⟨z, hz, rfl⟩ := Option.map_eq_some_iff.1 hu
          obtain ⟨b', o', e', c'⟩ := sc.cell i z hz
          obtain ⟨rfl, rfl⟩ : bc = b' ∧ oc = o' := by simpa using e'
          rw [add_plain]
          exact c'
        have hown : wr.ownsRow w.heap.size 3 1 u6 (ls.take j).flatten.length (zcs (ls.take j).flatten) := hrow
        have hfl := hFj.out j
        have hsz := hbw.size
        have hnl : (zcs c).length = d * 1 := by rw [zcs_length]; omega
        have h1c : ∀ u ∈ zcs c, u.oneCell' = true := fun u hu => by
          unfold zcs at hu
          obtain ⟨z, _, rfl⟩ := List.mem_map.1 hu
          rfl
        obtain ⟨L, hL⟩ : ∃ L, (ls.take j).flatten.length = L := ⟨_, rfl⟩
        rw [hL] at hown hfl
        replace hne : Hid (∀ c, c ∈ ls.take (j + 1) → c ≠ []) := fun c' hc' => by
          rw [htk.out] at hc'
          rcases List.mem_append.1 hc' with h | h
          · exact hne c' h
          · simp at h; subst h
            intro e0
            rw [e0] at hd
            simp at hd
            omega
        replace hd := hid hd
        replace hL := hid hL
        replace hbw := hid hbw
        clear hst hcj hrow sc sc0 q0 hz0'
        go_wp2_with (at_builtin; refine wpList_append_own _ rfl (.tmp 27) (.tmp 31) 22 rfl w.heap.size 3 i0 _ 1 8 Tryd.underlying22 hif hz0 hz1 hz2 rfl (by decide) _ _ _ rfl hown ⟨bc, oc, none⟩ d cc (zcs c) rfl hnl hnews h1c (by unfold maxLen; omega) (by omega) hsz ?_; intro v' w' ho' hg' _; refine Hid.out ?_)
        have hnew : Hid (RwI w.heap.size w' v' (ls.take (j + 1)).flatten ∧ (∀ c, c ∈ ls.take (j + 1) → c ≠ []) ∧ Below w.heap.size w w') := by
          refine ⟨?_, hne.out, below_grown hbw.out (Nat.le_refl _) hown (Nat.le_refl _) hg'⟩
          rw [htk.out, List.flatten_append]
          unfold RwI
          rw [List.length_append, zcs_append, hL.out]
          simp only [List.flatten_cons, List.flatten_nil, List.append_nil]
          rw [hd.out]
          exact ho'
        clear ho' hg' hown hnews hnl h1c
        refine hid ?_
        go_wp2_with fail
        go_roundw
        case rel => exact ⟨j + 1, by omega, by go_num, hnew⟩
        case measure => simp [intOf]; omega
    · obtain rfl : j = m := by omega
      have hst1 : Hid (RwI w.heap.size wr u6 ls.flatten ∧ (∀ c, c ∈ ls → c ≠ []) ∧ Below w.heap.size w wr) := by
        have := hst.out
        rw [List.take_of_length_le (l := ls) (by rw [hl.out]; exact Nat.le_refl _)] at this
        exact this
      obtain ⟨F, hFe⟩ : ∃ F, ls.flatten = F := ⟨_, rfl⟩
      have hFh := hid hFe
      rw [hFe] at hst1 hF
      obtain ⟨af, fn, cf, rfl, sf⟩ := hst1.out.1.iv
      have hfl := sf.len
      rw [hfl] at hF
      have hne := hid hst1.out.2.1
      have hst2 : Hid (Sl wr af fn F ∧ Below w.heap.size w wr) := ⟨sf, hst1.out.2.2⟩
      replace hfl := hid hfl
      clear hst hst1 hFe sf hge hj hFj
      go_wp2_with fail
      go_loopw [8, 9] (fun u _ wr => ∃ i : Nat, i ≤ fn ∧ u = .int .i64 (i : Int) ∧ Hid (Part n (F.take i) ∧ Sl wr af fn F ∧ Below w.heap.size w wr))
        (fun u _ _ => fn - (intOf u).toNat)
      case atStart => exact ⟨0, by omega, by go_num, by simp [Part], hst2.out⟩
      case round =>
        obtain ⟨i, hi, rfl, hst⟩ := hrel
        clear hst2
        rcases Nat.lt_or_ge i fn with hlt | hge
        · obtain ⟨z, hz⟩ : ∃ z, F[i]? = some z := ⟨_, List.getElem?_eq_getElem (by rw [hfl.out]; exact hlt)⟩
          obtain ⟨bf, of_, rfl, cz⟩ := hst.out.2.1.cell i z hz
          have htk := hid (take_next hz)
          have hpre : Hid (Dj n ls → Part n (F.take i ++ [z])) := fun h => by
            rw [← htk.out]
            have h2 : Part n (F.take (i + 1) ++ F.drop (i + 1)) := by rw [List.take_append_drop, ← hFh.out]; exact h.2
            exact h2.pre
          have i1 : (0 : Int) ≤ (i : Int) := by omega
          have i2 : (i : Int) < (fn : Int) := by omega
          by_cases hr : 0 ≤ z ∧ z < (n : Int)
          · obtain ⟨hr1, hr2⟩ := hr
            have g1 : ¬ (z < 0) := by omega
            have g2 : ¬ ((n : Int) ≤ z) := by omega
            have hst3 : Hid (z ∉ F.take 0 ∧ Sl wr (some ⟨bf, of_, none⟩) fn F ∧ Below w.heap.size w wr) := ⟨by simp, hst.out.2⟩
            have hpt := hid hst.out.1
            replace hz := hid hz
            clear hst
            go_wp2_with fail
            go_loopw [9] (fun u wr => ∃ k : Nat, k ≤ i ∧ u = .int .i64 (k : Int) ∧ Hid (z ∉ F.take k ∧ Sl wr (some ⟨bf, of_, none⟩) fn F ∧ Below w.heap.size w wr))
              (fun u _ => i - (intOf u).toNat)
            case atStart => exact ⟨0, by omega, by go_num, hst3⟩
            case round =>
              obtain ⟨k, hk, rfl, hst⟩ := hrel
              clear hst3 cz
              rcases Nat.lt_or_ge k i with hki | hki
              · obtain ⟨y, hy⟩ : ∃ y, F[k]? = some y := ⟨_, List.getElem?_eq_getElem (by rw [hfl.out]; omega)⟩
                obtain ⟨b5, o5, e5, cy⟩ := hst.out.2.1.cell k y hy
                obtain ⟨rfl, rfl⟩ : bf = b5 ∧ of_ = o5 := by simpa using e5
                obtain ⟨b6, o6, e6, cz⟩ := hst.out.2.1.cell i z hz.out
                obtain ⟨rfl, rfl⟩ : bf = b6 ∧ of_ = o6 := by simpa using e6
                have j1 : (0 : Int) ≤ (k : Int) := by omega
                have j2 : (k : Int) < (fn : Int) := by omega
                have htk2 := hid (take_next hy)
                clear e5 e6
                by_cases e : y = z
                · have hno : Hid (¬ Dj n ls) := fun h => by
                    have h1 := (hpre.out h).1
                    have h2 : z ∈ F.take i := by
                      rw [← e]
                      refine List.mem_of_getElem? (i := k) ?_
                      rw [List.getElem?_take, if_pos hki]
                      exact hy
                    exact (List.nodup_append.1 h1).2.2 z h2 z (by simp) rfl
                  have hbn : Hid (∀ q, Below w.heap.size w (wr.drewN q)) := fun q => belowN hst.out.2.2 q
                  subst e
                  clear hst hy htk2
                  go_wp2_with fail
                  go_quiet (fail)
                  go_wp2_with fail
                  go_ret2
                  exact ⟨_, _, rfl, by simp; exact hno.out, by simp, hbn.out _⟩
                · have t1 : (y == z) = false := by simpa using e
                  have hnew : Hid (∀ q, z ∉ F.take (k + 1) ∧ Sl (wr.drewN q) (some ⟨bf, of_, none⟩) fn F ∧ Below w.heap.size w (wr.drewN q)) := fun q => by
                    refine ⟨?_, hst.out.2.1.below (belowN (Below.refl _ _) q), belowN hst.out.2.2 q⟩
                    rw [htk2.out, List.mem_append, not_or]
                    exact ⟨hst.out.1, by simp; exact fun h => e h.symm⟩
                  clear hst hy htk2
                  go_wp2_with fail
                  go_quiet (fail)
                  go_wp2_with fail
                  go_roundw
                  case rel => exact ⟨k + 1, by omega, by go_num, hnew.out _⟩
                  case measure => simp [intOf]; omega
              · obtain rfl : k = i := by omega
                have hnew : Hid (Part n (F.take (k + 1)) ∧ Sl wr (some ⟨bf, of_, none⟩) fn F ∧ Below w.heap.size w wr) := by
                  refine ⟨?_, hst.out.2⟩
                  rw [htk.out]
                  exact hpt.out.push hr1 hr2 hst.out.1
                clear hst
                go_wp2_with fail
                go_roundw
                case rel => exact ⟨k + 1, by omega, by go_num, hnew⟩
                case measure => simp [intOf]; omega
          · have hno : Hid (¬ Dj n ls) := fun h => by
              have := (hpre.out h).2 z (by simp)
              omega
            have hb := hid hst.out.2.2
            clear hst hz
            have hr' : z < 0 ∨ (0 ≤ z ∧ (n : Int) ≤ z) := by omega
            rcases hr' with g1 | ⟨g1, g2⟩
            · go_wp2_with fail
              go_ret2
              exact ⟨_, _, rfl, by simp; exact hno.out, by simp, hb.out⟩
            · have g3 : ¬ (z < 0) := by omega
              go_wp2_with fail
              go_ret2
              first
                | exact ⟨_, .inl ⟨rfl, hno.out, hb.out⟩⟩
                | exact ⟨_, _, rfl, by simp; exact hno.out, by simp, hb.out⟩
        · obtain rfl : i = fn := by omega
          have hdj : Hid (Dj n ls) := by
            have := hst.out.1
            rw [List.take_of_length_le (l := F) (by rw [hfl.out]; exact Nat.le_refl _)] at this
            exact ⟨hne.out, by rw [hFh.out]; exact this⟩
          obtain ⟨ms, hms, hcs⟩ := hdj.out.nat
          have hnx := hid (hg.out ms hms hcs)
          have hml : Hid (ms.length = j) := hid (by rw [← hl.out, hms]; simp [cls])
          have hbw := hid hst.out.2.2
          replace hcs := hid hcs
          have hcm : Hid (∀ c, c ∈ ms → c.length ≤ 1000) := fun c hcc => by
            have := hc.out (cl c) (by rw [hms]; exact List.mem_map.2 ⟨c, hcc, rfl⟩)
            simpa using this
          rw [hms] at ha
          replace hdj : Hid (Dj n ls) := hdj
          replace hms := hid hms
          clear hst hge hi hne hFh hfl hc
          have hst4 : Hid (Rw w.heap.size (wr.alloc (.cells #[] 3)) (.slice (some ⟨wr.heap.size, 0, none⟩) 0 0) (fl 0 g) ∧ Below w.heap.size w (wr.alloc (.cells #[] 3))) :=
            ⟨World.ownsRow_made wr #[] 0 hbw.out.size (by unfold maxLen; omega) rfl, hbw.out.alloc hbw.out.size _⟩
          go_wp2_with fail
          go_loopw [10, 11, 12, 13, 14] (fun o u _ _ _ wr => ∃ x : Nat, x ≤ n ∧ u = .int .i64 (x : Int) ∧ Hid (Rw w.heap.size wr o (fl x g) ∧ Below w.heap.size w wr))
            (fun _ u _ _ _ _ => n - (intOf u).toNat)
          case atStart => exact ⟨0, by omega, by go_num, hst4⟩
          case round =>
            obtain ⟨x, hx, rfl, hst⟩ := hrel
            clear hst4
            rcases Nat.lt_or_ge x n with hxn | hxn
            · have hst5 : Hid (Value.int .i64 (x : Int) = .int .i64 (tt g x (ms.take 0).flatten : Int) ∧ Rw w.heap.size wr u10 (fl x g) ∧ Below w.heap.size w wr) := ⟨by simp [tt], hst.out⟩
              clear hst
              go_wp2_with fail
              go_loopw [12, 13, 14] (fun t u _ wr => ∃ k : Nat, k ≤ j ∧ u = .int .i64 (k : Int) ∧ Hid (t = .int .i64 (tt g x (ms.take k).flatten : Int) ∧ Rw w.heap.size wr u10 (fl x g) ∧ Below w.heap.size w wr))
                (fun _ u _ _ => j - (intOf u).toNat)
              case atStart => exact ⟨0, by omega, by go_num, hst5⟩
              case round =>
                obtain ⟨k, hk, rfl, hst⟩ := hrel
                clear hst5
                rcases Nat.lt_or_ge k j with hkj | hkj
                · obtain ⟨c, hcj⟩ : ∃ c, ms[k]? = some c := ⟨_, List.getElem?_eq_getElem (by rw [hml.out]; exact hkj)⟩
                  have hcm' := List.mem_of_getElem? hcj
                  obtain ⟨b1, o1, u1, rfl, q0, I1⟩ := ha.out.cell k _ (cls_at hcj)
                  obtain ⟨ac, d, cc, rfl, sc⟩ := I1
                  have hd : c.length = d := by have := sc.len; simpa using this
                  have hd2 := hcm.out c hcm'
                  rw [hd] at hd2
                  have hd1 : 1 ≤ d := by
                    rcases Nat.eq_zero_or_pos d with h0 | h0
                    · exact absurd (List.eq_nil_of_length_eq_zero (hd.trans h0)) (hcs.out.ne c hcm')
                    · exact h0
                  obtain ⟨z0, hz0'⟩ : ∃ z0, c[0]? = some z0 := ⟨_, List.getElem?_eq_getElem (by omega)⟩
                  obtain ⟨bc, oc, rfl, _⟩ := sc.cell 0 _ (cl_get hz0')
                  have hcq : Hid (∀ y, Below w.heap.size w y → y.cell? ⟨b1, o1 + k, none⟩ = some (.slice (some ⟨bc, oc, none⟩) d cc) ∧ ∀ (i z : Nat), c[i]? = some z → y.cell? ⟨bc, oc + i, none⟩ = some (.int .i64 (z : Int))) := fun y hy => by
                    refine ⟨(hy.cell (World.block_lt_of_cell? w _ q0)).trans q0, fun i z hz => ?_⟩
                    obtain ⟨b', o', e', c'⟩ := (sc.below hy).cell i _ (cl_get hz)
                    obtain ⟨rfl, rfl⟩ : bc = b' ∧ oc = o' := by simpa using e'
                    exact c'
                  have hon := hid (hnx.out.on c hcm')
                  have hfe : Hid ((ms.take (k + 1)).flatten = (ms.take k).flatten ++ c) := by rw [mtake hcj, List.flatten_append]; exact hid (by simp)
                  have hst6 : Hid (u12 = .int .i64 (tt g x ((ms.take k).flatten ++ c.take 0) : Int) ∧ Rw w.heap.size wr u10 (fl x g) ∧ Below w.heap.size w wr) := by
                    rw [List.take_zero, List.append_nil]; exact hst
                  have i1 : (0 : Int) ≤ (k : Int) := by omega
                  have i2 : (k : Int) < (j : Int) := by omega
                  replace hd := hid hd
                  clear hst hcj hcm' q0 sc hz0'
                  go_wp2_with fail
                  go_loopw [12, 14] (fun t u wr => ∃ i : Nat, i ≤ d ∧ u = .int .i64 (i : Int) ∧ Hid (t = .int .i64 (tt g x ((ms.take k).flatten ++ c.take i) : Int) ∧ Rw w.heap.size wr u10 (fl x g) ∧ Below w.heap.size w wr))
                    (fun _ u _ => d - (intOf u).toNat)
                  case atStart => exact ⟨0, by omega, by go_num, hst6⟩
                  case round =>
                    obtain ⟨i, hi, rfl, hst⟩ := hrel
                    clear hst6
                    obtain ⟨q1, qc⟩ := hcq.out wr hst.out.2.2
                    rcases Nat.lt_or_ge i d with hid' | hid'
                    · obtain ⟨z, hz⟩ : ∃ z, c[i]? = some z := ⟨_, List.getElem?_eq_getElem (by rw [hd.out]; exact hid')⟩
                      have c1 := qc i z hz
                      have htk : Hid ((ms.take k).flatten ++ c.take (i + 1) = ((ms.take k).flatten ++ c.take i) ++ [z]) := by rw [ntake hz, List.append_assoc]; exact hid rfl
                      have j1 : (0 : Int) ≤ (i : Int) := by omega
                      have j2 : (i : Int) < (d : Int) := by omega
                      by_cases e : z = x
                      · have hnext := hon.out i z hz
                        rw [hd.out] at hnext
                        have c2 := qc _ _ hnext
                        rw [e] at c2
                        have hml2 : (i + 1) % d < d := Nat.mod_lt _ hd1
                        have wm := wrap_mod1 i d hd1 (by omega) (by omega)
                        obtain ⟨M, hM⟩ : ∃ M, (i + 1) % d = M := ⟨_, rfl⟩
                        rw [hM] at c2 hml2 wm
                        have hnew : Hid (∀ q, Value.int .i64 (g x : Int) = .int .i64 (tt g x ((ms.take k).flatten ++ c.take (i + 1)) : Int) ∧ Rw w.heap.size (wr.drewN q) u10 (fl x g) ∧ Below w.heap.size w (wr.drewN q)) := fun q => by
                          refine ⟨?_, hst.out.2.1.more (belowN (Below.refl _ _) q), belowN hst.out.2.2 q⟩
                          rw [htk.out, e, tt_hit]
                        generalize g x = gx at c2 hnew
                        have j3 : (0 : Int) ≤ (M : Int) := by omega
                        have j4 : (M : Int) < (d : Int) := by omega
                        have d2 : ¬ ((d : Int) = 0) := by omega
                        have d3 : ¬ (d = 0) := by omega
                        subst e
                        clear hst hz hnext hM qc htk
                        go_wp2_with fail
                        go_quiet (fail)
                        go_wp2_with fail
                        go_roundw
                        case rel => exact ⟨i + 1, by omega, by go_num, hnew.out _⟩
                        case measure => simp [intOf]; omega
                      · have hnew : Hid (u12 = .int .i64 (tt g x ((ms.take k).flatten ++ c.take (i + 1)) : Int) ∧ Rw w.heap.size wr u10 (fl x g) ∧ Below w.heap.size w wr) := by
                          rw [htk.out, tt_miss g _ e]; exact hst
                        have t1 : ((z : Int) == (x : Int)) = false := by simp; omega
                        have t2 : ¬ ((z : Int) = (x : Int)) := by omega
                        clear hst hz qc htk
                        go_wp2_with fail
                        go_roundw
                        case rel => exact ⟨i + 1, by omega, by go_num, hnew⟩
                        case measure => simp [intOf]; omega
                    · obtain rfl : i = d := by omega
                      have hnew : Hid (u12 = .int .i64 (tt g x (ms.take (k + 1)).flatten : Int) ∧ Rw w.heap.size wr u10 (fl x g) ∧ Below w.heap.size w wr) := by
                        have := hst.out
                        rw [List.take_of_length_le (l := c) (by rw [hd.out]; exact Nat.le_refl _), ← hfe.out] at this
                        exact this
                      clear hst qc
                      go_wp2_with fail
                      go_roundw
                      case rel => exact ⟨k + 1, by omega, by go_num, hnew⟩
                      case measure => simp [intOf]; omega
                · obtain rfl : k = j := by omega
                  obtain ⟨ht, hrow, hb⟩ := hst.out
                  rw [List.take_of_length_le (l := ms) (by rw [hml.out]; exact Nat.le_refl _), hnx.out.tt hxn] at ht
                  subst ht
                  have hown : wr.ownsRow w.heap.size 3 1 u10 (fl x g).length (ics (fl x g)) := hrow
                  rw [fl_length] at hown
                  have hsz := hb.size
                  have haft : Hid (fl (x + 1) g = fl x g ++ [g x]) := hid (fl_succ _ _)
                  replace hb := hid hb
                  clear hst hrow
                  generalize g x = gx at *
                  go_wp2_with (at_builtin; refine wpList_append_own _ rfl (.tmp 111) (.tmp 113) 22 rfl w.heap.size 3 i0 _ 1 8 Tryd.underlying22 hif hz0 hz1 hz2 rfl (by decide) _ _ _ rfl (hown.alloc _) ⟨wr.heap.size, 0, none⟩ 1 1 [.int .i64 (gx : Int)] rfl rfl (one_new wr _ _) (by simp [Value.oneCell']) (by unfold maxLen; omega) (by omega) (by simp; omega) ?_; intro v' w' ho' hg' _; refine Hid.out ?_)
                  have hnew := hid (And.intro (show Rw w.heap.size w' v' (fl (x + 1) g) from by
                    rw [haft.out]
                    unfold Rw
                    rw [List.length_append, fl_length, ics_append]
                    exact ho') (below_grown (hb.out.alloc hsz _) (Nat.le_refl _) (hown.alloc _) (Nat.le_refl _) hg'))
                  clear ho' hg' hown hb
                  refine hid ?_
                  go_wp2_with fail
                  go_roundw
                  case rel => exact ⟨x + 1, by omega, by go_num, hnew⟩
                  case measure => simp [intOf]; omega
            · obtain rfl : x = n := by omega
              go_wp2_with fail
              go_ret2
              exact ⟨_, _, rfl, by simp; exact hdj.out, fun _ => hst.out.1, hst.out.2⟩

end Go.Proofs.YtjngdecpomogbaaDoor
