/- The document's Road between faces, walked. -/
import Derived.Test.YtdmkbcbgjdmgdaaGreatDoorBrd
namespace Go.Proofs.YtdmkbcbgjdmgdaaGreatDoor.Wd
open Go.RowKit
set_option linter.unusedVariables false

set_option maxRecDepth 100000 in
set_option maxHeartbeats 8000000 in
theorem rroad14_ok (n m : Int) (fad : Option Addr) (F fcap : Nat) (tv : Value) (ts : List Ti) (fi : Nat → Nat) (It : Nat → Prop) (a b : Nat) (w : World) (hT : TV w tv ts) (htl : ts.length ≤ 1000) (hF : F ≤ 1000) (hit : ∀ t, t ∈ ts → It t.a ∧ It t.b) (hfi : ∀ d, It d → fi d < F) (ha : It a) (hb : It b)
    (hfind : ∀ y, Below w.heap.size w y → ∀ d : Nat, It d → Calls Tryz.prog 39 #[.slice fad F fcap, .int .i64 (d : Int)] y fun e w' => ∃ k : Int, e = .returned (.tuple #[.int .i64 (fi d : Int), .int .i64 k]) ∧ Below y.heap.size y w') :
    Calls Tryz.prog 66 #[.agg #[.int .i64 n, .int .i64 m, .slice fad F fcap, tv], .int .i64 (a : Int), .int .i64 (b : Int)] w fun e w' => ∃ rv s, e = .returned (.tuple #[rv, .bool s]) ∧ RdIs ts fi a b w' rv s ∧ Below w.heap.size w w' := by
  obtain ⟨i0, hif, hz0, hz1, hz2⟩ := info_parts infoTies
  obtain ⟨i1, hbf, hx0, hx1, hx2⟩ := info_parts infoBool
  obtain ⟨j0, hjf, hy0, hy1, hy2⟩ := info_parts infoInt
  have hT0 := hid hT
  obtain ⟨tad, tcap, rfl⟩ := hT.form
  obtain ⟨T, hTl⟩ : ∃ T, ts.length = T := ⟨_, rfl⟩
  rw [hTl] at hT0 htl ⊢
  replace hTl := hid hTl
  obtain ⟨w1, hw1⟩ : ∃ w1, w.alloc (.cells #[.int .i64 n, .int .i64 m, .slice fad F fcap, .slice tad T tcap] 32) = w1 := ⟨_, rfl⟩
  have kb : w1.heap[w.heap.size]? = some (.cells #[.int .i64 n, .int .i64 m, .slice fad F fcap, .slice tad T tcap] 32 (0, 0)) := by rw [← hw1]; exact heap_alloc_new w _
  have hb1 : Hid (Below w.heap.size w w1) := by rw [← hw1]; exact hid (balloc w _)
  have hX : Hid (∀ y, Below w1.heap.size w1 y → y.cell? ⟨w.heap.size, 2, none⟩ = some (.slice fad F fcap) ∧ y.cell? ⟨w.heap.size, 3, none⟩ = some (.slice tad T tcap)) := hid (fun y hy => by
    have h1 := (hy.block _ (Array.getElem?_eq_some_iff.1 kb).1).trans kb
    constructor <;> (unfold World.cell?; rw [h1]; rfl))
  have hfd : Hid (∀ y, Below w1.heap.size w1 y → ∀ d : Nat, It d → _) := hid (fun y hy d hd => hfind y (hb1.out.trans (hy.mono hb1.out.size)) d hd)
  have hTy : Hid (∀ y, Below w1.heap.size w1 y → TV y (.slice tad T tcap) ts) := hid (fun y hy => hT0.out.below (hb1.out.trans (hy.mono hb1.out.size)))
  have hfa := hfi a ha
  have hfb := hfi b hb
  replace hfi := hid hfi
  replace hit := hid hit
  replace hw1 := hid hw1
  clear hT hT0 kb hfind
  obtain ⟨x0, x1⟩ := hX.out _ (Below.refl _ _)
  go_enter Tryz.func66, Tryz.ntmps66
  go_upto_region 1 with fail
  rw [hw1.out]
  clear hw1
  go_wp2_with fail
  refine (hfd.out _ (Below.refl _ _) a ha).mono ?_
  rintro e w2 ⟨k2, rfl, b2⟩
  replace b2 := hid b2
  clear x0 x1
  obtain ⟨x0, x1⟩ := hX.out _ b2.out
  go_wp2_with fail
  refine (hfd.out _ b2.out b hb).mono ?_
  rintro e w3 ⟨k3, rfl, b3⟩
  replace b3 := hid (b2.out.trans (b3.mono b2.out.size))
  clear x0 x1 b2
  obtain ⟨x0, x1⟩ := hX.out _ b3.out
  obtain ⟨fa, hfae⟩ : ∃ fa, fi a = fa := ⟨_, rfl⟩
  obtain ⟨fb, hfbe⟩ : ∃ fb, fi b = fb := ⟨_, rfl⟩
  rw [hfae] at hfa
  rw [hfbe] at hfb
  try rw [hfae]
  try rw [hfbe]
  have hsz := b3.out.size
  go_upto_region 4 with (at_make; refine wpList_make_full _ rfl (.tmp 38) (.tmp 38) 146 rfl w1.heap.size 30 i0 (.slice none 0 0) 1 Tryz.underlying146 hif hz0 hz1 .i64 .i64 _ _ F rfl rfl rfl rfl (by rw [hz2]; omega) (by unfold maxLen; omega) hsz ?_; intro w4 hown4 hgrow4)
  rw [made_nil] at hown4
  have b4 : Hid (Below w1.heap.size w1 w4) := hid (b3.out.grown hgrow4 hsz (by simp))
  have hsz4 := b4.out.size
  clear x0 x1
  obtain ⟨x0, x1⟩ := hX.out _ b4.out
  replace hown4 := hid hown4
  clear hgrow4
  obtain ⟨P, hP⟩ : ∃ P, w3.heap.size = P := ⟨_, rfl⟩
  rw [hP] at hown4
  try rw [hP]
  clear hP b3 hsz
  go_upto_region 5 with (at_make; refine wpList_make_full _ rfl (.tmp 42) (.tmp 42) 147 rfl w1.heap.size 4 i1 (.bool false) 1 Tryz.underlying147 hbf hx0 hx1 .i64 .i64 _ _ F rfl rfl rfl rfl (by rw [hx2]; omega) (by unfold maxLen; omega) hsz4 ?_; intro w5 hown5 hgrow5)
  rw [bl_made] at hown5
  have b5 : Hid (Below w1.heap.size w1 w5) := hid (b4.out.grown hgrow5 hsz4 (by simp))
  have ho5 : Hid (w5.ownsRow w1.heap.size 30 1 (.slice (some ⟨P, 0, none⟩) F F) F (List.replicate F (.slice none 0 0))) := hid (hown4.out.kept hgrow5 (Classical.em _))
  obtain ⟨S, hS⟩ : ∃ S, w4.heap.size = S := ⟨_, rfl⟩
  rw [hS] at hown5
  try rw [hS]
  have f1 : (0 : Int) ≤ (fa : Int) := by omega
  have f2 : (fa : Int) < (F : Int) := by omega
  have c5 : w5.cell? ⟨S, fa, none⟩ = some (.bool false) := by rw [hown5.cellAt fa (by omega), bl_get hfa]
  have z5 := hown5.frozenAt fa
  obtain ⟨s1, s2⟩ := hown5.stored fa (.bool true)
  rw [bl_set] at s1
  obtain ⟨w6, hw6⟩ : ∃ w6, w5.setCell ⟨S, fa, none⟩ (.bool true) = w6 := ⟨_, rfl⟩
  rw [hw6] at s1 s2
  have b6 : Hid (Below w1.heap.size w1 w6) := hid (below_grown b5.out (Nat.le_refl _) hown5 (Nat.le_refl _) s2)
  have ho6 : Hid (w6.ownsRow w1.heap.size 30 1 (.slice (some ⟨P, 0, none⟩) F F) F (List.replicate F (.slice none 0 0))) := hid (ho5.out.kept s2 (own_apart ho5.out hown5 (by decide)))
  have hs6 : Hid (w6.ownsRow w1.heap.size 4 1 (.slice (some ⟨S, 0, none⟩) F F) F (bl F (marks [fa]))) := hid (by
    rw [show bl F (marks [fa]) = bl F (on (fun _ => false) fa) from bl_congr (fun i _ => by unfold marks on; by_cases q : i = fa <;> simp [q])]
    exact s1)
  replace hw6 := hid hw6
  clear hown4 hown5 hgrow5 s1 s2 ho5 hS b4 b5 x0 x1 hsz4
  go_upto_region 6 with fail
  rw [hw6.out]
  clear hw6 c5 z5
  have hrs0 : Hid (Rs w1 F ts fi fa (.slice (some ⟨S, 0, none⟩) F F) (.slice (some ⟨P, 0, none⟩) F F) (.slice (some ⟨w6.heap.size, 0, none⟩) 1 1) [fa] (fun _ => []) (w6.alloc (.cells #[.int .i64 (fa : Int)] 3))) := hid (by
    have hb := balloc w6 (.cells #[.int .i64 (fa : Int)] 3)
    refine ⟨Bs.start fa, fun z hz => by simp at hz; omega, own_more hs6.out hb, ⟨_, own_more ho6.out hb, fun i hi => ?_, fun i hi hn => ?_⟩, ?_, b6.out.trans (hb.mono b6.out.size)⟩
    · simp at hi
      subst hi
      exact ⟨.slice none 0 0, by rw [List.getElem?_replicate, if_pos hfa], tv_nil _⟩
    · rw [List.getElem?_replicate, if_pos hi]
    · exact World.ownsRow_lit w6 #[.int .i64 (fa : Int)] 1 b6.out.size (by unfold maxLen; omega) rfl)
  clear b6 ho6 hs6
  go_wp2_with fail
  go_loopw [14, 15, 16, 17, 18, 19, 20, 21] (fun s14 s15 _ _ _ _ _ _ wr => ∃ (i : Nat) (all : List Nat) (rd : Nat → List Nat), i ≤ all.length ∧ i ≤ F ∧ s15 = .int .i64 (i : Int) ∧ Hid (∀ j f, j < i → all[j]? = some f → Dn fi (tA ts) (tB ts) all T f) ∧ Hid (Rs w1 F ts fi fa (.slice (some ⟨S, 0, none⟩) F F) (.slice (some ⟨P, 0, none⟩) F F) s14 all rd wr)) (fun _ s15 _ _ _ _ _ _ _ => F - (intOf s15).toNat)
  case atStart => exact ⟨0, [fa], _, by simp, by omega, by go_num, hid (fun j f hj => by omega), hrs0⟩
  case round =>
    obtain ⟨i, all, rd, hi, hiF, rfl, hdn, hrs⟩ := hrel
    clear hrs0
    have hlen := hrs.out.len
    obtain ⟨aad, acap, hu14, _⟩ := own_any hrs.out.allr
    subst hu14
    obtain ⟨L, hL⟩ : ∃ L, all.length = L := ⟨_, rfl⟩
    rw [hL] at hi hlen hrs ⊢
    rcases Nat.lt_or_ge i L with hil | hig
    · obtain ⟨c, hc⟩ : ∃ c, all[i]? = some c := ⟨_, List.getElem?_eq_getElem (by rw [hL]; exact hil)⟩
      have hcm := List.mem_of_getElem? hc
      have v1 : decide ((i : Int) < (L : Int)) = true := decide_eq_true (by omega)
      have v1' : decide (i < L) = true := decide_eq_true (by omega)
      replace hL := hid hL
      replace hc := hid hc
      have hrsk : Hid (Rs w1 F ts fi fa (.slice (some ⟨S, 0, none⟩) F F) (.slice (some ⟨P, 0, none⟩) F F) (.slice aad L acap) (all ++ []) rd wr) := hid (by rw [List.append_nil]; exact hrs.out)
      clear hrs
      go_wp2_with fail
      go_loopw [14, 16, 17, 18, 19, 20, 21] (fun s14 s16 _ _ _ _ _ wr => ∃ (k : Nat) (ex : List Nat) (rd : Nat → List Nat), k ≤ T ∧ s16 = .int .i64 (k : Int) ∧ Hid (Dn fi (tA ts) (tB ts) (all ++ ex) k c) ∧ Hid (Rs w1 F ts fi fa (.slice (some ⟨S, 0, none⟩) F F) (.slice (some ⟨P, 0, none⟩) F F) s14 (all ++ ex) rd wr)) (fun _ s16 _ _ _ _ _ _ => T - (intOf s16).toNat)
      case atStart => exact ⟨0, [], rd, by omega, by go_num, hid (Dn.zero _ _), hrsk⟩
      case round =>
        obtain ⟨k, ex, rd, hk, rfl, hdc, hrs⟩ := hrel
        clear hrsk
        obtain ⟨x0, x1⟩ := hX.out _ hrs.out.bel
        have hci : (all ++ ex)[i]? = some c := by rw [List.getElem?_append_left (by rw [hL.out]; exact hil)]; exact hc.out
        have hcF := hrs.out.lt c (List.mem_append.2 (.inl hcm))
        have hlen := hrs.out.len
        have hpos : 0 < (all ++ ex).length := by have := (List.getElem?_eq_some_iff.1 hci).1; omega
        obtain ⟨ag, ac, hu14, hac, hacm⟩ := own_form hrs.out.allr hpos
        subst hu14
        obtain ⟨L', hL'⟩ : ∃ L', (all ++ ex).length = L' := ⟨_, rfl⟩
        rw [hL'] at hlen hac ⊢
        have hiL' : i < L' := by have := (List.getElem?_eq_some_iff.1 hci).1; omega
        rcases Nat.lt_or_ge k T with hkl | hkg
        · obtain ⟨t, ht⟩ : ∃ t, ts[k]? = some t := ⟨_, List.getElem?_eq_getElem (by rw [hTl.out]; exact hkl)⟩
          obtain ⟨hia, hib⟩ := hit.out t (List.mem_of_getElem? ht)
          have hxF := hfi.out _ hia
          have hyF := hfi.out _ hib
          obtain ⟨tg, tof, tcp, e0, q0, q1, q2, q3⟩ := (hTy.out _ hrs.out.bel).cells ht
          simp only [Value.slice.injEq] at e0
          obtain ⟨hte, hq9, rfl⟩ := e0
          clear hq9
          rw [hte] at x1
          have hc4 : Hid (∀ y, Below w1.heap.size w1 y → y.cell? ⟨w.heap.size, 3, none⟩ = some (.slice (some ⟨tg, tof, none⟩) T tcap) ∧ y.cell? ⟨tg, tof + k * 4, none⟩ = some (.int .i64 (t.e : Int)) ∧ y.cell? ⟨tg, tof + k * 4 + 1, none⟩ = some (.int .i64 (t.a : Int)) ∧ y.cell? ⟨tg, tof + k * 4 + 2, none⟩ = some (.int .i64 (t.b : Int)) ∧ y.cell? ⟨tg, tof + k * 4 + 3, none⟩ = some (.int .i64 t.key)) := hid (fun y hy => by
            obtain ⟨g', o', c', e', p0, p1, p2, p3⟩ := (hTy.out y hy).cells ht
            have z1 := (hX.out y hy).2
            rw [hte] at e' z1
            simp only [Value.slice.injEq, Option.some.injEq, Addr.mk.injEq, and_true] at e'
            obtain ⟨⟨rfl, rfl⟩, _, _⟩ := e'
            exact ⟨z1, p0, p1, p2, p3⟩)
          replace hte := hid hte
          have k1 : (0 : Int) ≤ (k : Int) := by omega
          have k2' : (k : Int) < (T : Int) := by omega
          have v2 : decide ((k : Int) < (T : Int)) = true := decide_eq_true (by omega)
          have v2' : decide (k < T) = true := decide_eq_true (by omega)
          have hta : Hid (tA ts k = t.a ∧ tB ts k = t.b) := hid (by unfold tA tB; rw [tieAt_some ht]; exact ⟨rfl, rfl⟩)
          obtain ⟨ta, hta'⟩ : ∃ ta, t.a = ta := ⟨_, rfl⟩
          obtain ⟨tb, htb'⟩ : ∃ tb, t.b = tb := ⟨_, rfl⟩
          rw [hta'] at q1 hia hxF hta
          rw [htb'] at q2 hib hyF hta
          obtain ⟨fx, hfx⟩ : ∃ fx, fi ta = fx := ⟨_, rfl⟩
          obtain ⟨fy, hfy⟩ : ∃ fy, fi tb = fy := ⟨_, rfl⟩
          have hfA := hid (fun y (hy : Below w1.heap.size w1 y) => hfd.out y hy ta hia)
          have hfB := hid (fun y (hy : Below w1.heap.size w1 y) => hfd.out y hy tb hib)
          rw [hfx] at hfA hxF
          rw [hfy] at hfB hyF
          replace hfx := hid hfx
          replace hfy := hid hfy
          replace ht := hid ht
          replace hci := hid hci
          replace hL' := hid hL'
          have hbw := hid hrs.out.bel
          clear hta' htb' hia hib
          go_upto_region 13 with fail
          go_region_held3 (fun y => y.cell? ⟨w.heap.size, 2, none⟩ = some (.slice fad F fcap) ∧ y.cell? ⟨w.heap.size, 3, none⟩ = some (.slice (some ⟨tg, tof, none⟩) T tcap) ∧ y.cell? ⟨tg, tof + k * 4 + 1, none⟩ = some (.int .i64 (ta : Int))) (first | exact ⟨x0, x1, q1⟩ | exact ⟨y0, y1, p1⟩ | go_keep) ((go_at_call 39; refine (hfA.out _ hbw.out.drew).mono ?_; rintro e w7 ⟨k7, rfl, b7⟩; have y0 := (b7.cell (World.block_lt_of_cell? _ _ x0)).trans x0; have y1 := (b7.cell (World.block_lt_of_cell? _ _ x1)).trans x1; have p1 := (b7.cell (World.block_lt_of_cell? _ _ q1)).trans q1; have p2 := (b7.cell (World.block_lt_of_cell? _ _ q2)).trans q2; replace b7 := hid b7))
          have hbw7 := hid (hbw.out.drew.trans (b7.out.mono hbw.out.size))
          have hrs7 := hid (hrs.out.more ((Below.refl wr.heap.size wr).drew.trans b7.out))
          obtain ⟨wu, hwu⟩ : ∃ wu, wu = w7 := ⟨w7, rfl⟩
          subst hwu
          clear x0 x1 q0 q1 q2 q3 b7 hbw hrs p1
          go_upto_region 14 with fail
          go_region_held3 (fun y => y.cell? ⟨w.heap.size, 2, none⟩ = some (.slice fad F fcap) ∧ y.cell? ⟨w.heap.size, 3, none⟩ = some (.slice (some ⟨tg, tof, none⟩) T tcap) ∧ y.cell? ⟨tg, tof + k * 4 + 2, none⟩ = some (.int .i64 (tb : Int))) (first | exact ⟨y0, y1, p2⟩ | exact ⟨z0, z1, r2⟩ | go_keep) ((go_at_call 39; refine (hfB.out _ hbw7.out.drew).mono ?_; rintro e w8 ⟨k8, rfl, b8⟩; have z0 := (b8.cell (World.block_lt_of_cell? _ _ y0)).trans y0; have z1 := (b8.cell (World.block_lt_of_cell? _ _ y1)).trans y1; have r2 := (b8.cell (World.block_lt_of_cell? _ _ p2)).trans p2; replace b8 := hid b8))
          have hrs8 := hid (hrs7.out.more ((Below.refl wu.heap.size wu).drew.trans b8.out))
          clear y0 y1 p2 b8 hbw7 hrs7 z0 z1 r2 hfA hfB
          have i1 : (0 : Int) ≤ (i : Int) := by omega
          have i2 : (i : Int) < (L' : Int) := by omega
          have ca : w8.cell? ⟨ag, i, none⟩ = some (.int .i64 (c : Int)) := by rw [hrs8.out.allr.cellAt i (by have := hL'.out; omega)]; exact ncs_get hci.out
          rw [hL'.out] at hrs8
          obtain ⟨wv, hwv⟩ : ∃ wv, wv = w8 := ⟨w8, rfl⟩
          subst hwv
          go_upto_if 91 with fail
          go_cut [17, 19] from 86 to 93 (fun s17 s19 wy => ∃ x y : Nat, s17 = .int .i64 (x : Int) ∧ s19 = .int .i64 (y : Int) ∧ Hid (((x = fx ∧ y = fy) ∨ (x = fy ∧ y = fx)) ∧ (fx = c ∨ fy = c → x = c)) ∧ Hid (wy = wv))
          case first =>
            by_cases hyc : fy = c
            · have t1 : ((fy : Int) == (c : Int)) = true := by simp [hyc]
              replace hyc := hid hyc
              go_wp2_with fail
              go_meet
              case rel => exact ⟨fy, fx, rfl, rfl, hid ⟨.inr ⟨rfl, rfl⟩, fun _ => hyc.out⟩, by first | exact rfl | exact trivial⟩
            · have t1 : ((fy : Int) == (c : Int)) = false := by simp; omega
              replace hyc := hid hyc
              go_wp2_with fail
              go_meet
              case rel => exact ⟨fx, fy, rfl, rfl, hid ⟨.inl ⟨rfl, rfl⟩, fun q => q.resolve_right hyc.out⟩, by first | exact rfl | exact trivial⟩
          case rest =>
            obtain ⟨x, y, rfl, rfl, hxy, hwy⟩ := hcut
            have hwy' := hwy.out
            subst hwy'
            clear hwy
            obtain ⟨hxy1, hxy2⟩ := hxy.out
            have hxF' : x < F := by rcases hxy1 with ⟨rfl, _⟩ | ⟨rfl, _⟩ <;> assumption
            have hyF' : y < F := by rcases hxy1 with ⟨_, rfl⟩ | ⟨_, rfl⟩ <;> assumption
            replace hxy1 := hid hxy1
            replace hxy2 := hid hxy2
            have y1 : (0 : Int) ≤ (y : Int) := by omega
            have y2 : (y : Int) < (F : Int) := by omega
            clear hxy
            by_cases hxc : x = c
            · have t2 : ((x : Int) != (c : Int)) = false := by simp [hxc]
              have cs : wc.cell? ⟨S, y, none⟩ = some (.bool (marks (all ++ ex) y)) := by rw [hrs8.out.seen.cellAt y (by omega), bl_get hyF']
              by_cases hm : y ∈ all ++ ex
              · rw [show marks (all ++ ex) y = true from by simpa [marks] using hm] at cs
                have hd2 : Hid (Dn fi (tA ts) (tB ts) (all ++ ex) (k + 1) c) := hid (hdc.out.next (fun _ => by
                  have hcin : x ∈ all ++ ex := by rw [hxc]; exact List.mem_append.2 (.inl hcm)
                  obtain ⟨e1, e2⟩ := hta.out
                  rw [e1, e2, hfx.out, hfy.out]
                  rcases hxy1.out with ⟨rfl, rfl⟩ | ⟨rfl, rfl⟩
                  · exact ⟨hcin, hm⟩
                  · exact ⟨hm, hcin⟩))
                clear hm hxc hdc
                go_wp2_with fail
                go_roundw
                case rel => exact ⟨k + 1, ex, rd, by omega, by go_num, hd2, hrs8⟩
                case measure => simp [intOf]; omega
              · rw [show marks (all ++ ex) y = false from by simpa [marks] using hm] at cs
                have zs := hrs8.out.seen.frozenAt y
                have hcm' : x ∈ all ++ ex := by rw [hxc]; exact List.mem_append.2 (.inl hcm)
                obtain ⟨w9, hw9⟩ : ∃ w9, wc.setCell ⟨S, y, none⟩ (.bool true) = w9 := ⟨_, rfl⟩
                obtain ⟨u, hB9, hmid⟩ := hrs8.out.mid hcm' hm hyF' hw9
                have he : (fi (tA ts k) = x ∧ fi (tB ts k) = y) ∨ (fi (tB ts k) = x ∧ fi (tA ts k) = y) := by
                  obtain ⟨e1, e2⟩ := hta.out
                  rw [e1, e2, hfx.out, hfy.out]
                  rcases hxy1.out with ⟨rfl, rfl⟩ | ⟨rfl, rfl⟩
                  · exact .inl ⟨rfl, rfl⟩
                  · exact .inr ⟨rfl, rfl⟩
                have hd2 : Hid (Dn fi (tA ts) (tB ts) (all ++ (ex ++ [y])) (k + 1) c) := hid (by
                  rw [← List.append_assoc]
                  refine (hdc.out.more (fun z hz => List.mem_append.2 (.inl hz))).next (fun _ => ?_)
                  rcases he with ⟨e1, e2⟩ | ⟨e1, e2⟩ <;> rw [e1, e2]
                  · exact ⟨List.mem_append.2 (.inl hcm'), List.mem_append.2 (.inr (by simp))⟩
                  · exact ⟨List.mem_append.2 (.inr (by simp)), List.mem_append.2 (.inl hcm')⟩)
                obtain ⟨uad, ucap, hu⟩ := (hmid w9 (Below.refl _ _)).2.1.form
                have hrl := hrs8.out.rlen hcm'
                have hnext : Hid (∀ (y2 : World) (v2 : Value), Below w9.heap.size w9 y2 → TV y2 v2 ((rd x ++ [k]).map (tieAt ts)) → ∀ y3, y2.setCell ⟨P, y, none⟩ v2 = y3 → _) := hid (fun y2 v2 b2 h2 y3 e3 => hrs8.out.step hcm' hm hyF' (by have := hTl.out; omega) he hw9 b2 h2 e3)
                rw [List.map_append, show List.map (tieAt ts) [k] = [t] from by simp [tieAt_some ht.out]] at hnext
                rw [List.length_map] at hu
                obtain ⟨l, hl⟩ : ∃ l, (rd x).map (tieAt ts) = l := ⟨_, rfl⟩
                obtain ⟨un, hun⟩ : ∃ un, (rd x).length = un := ⟨_, rfl⟩
                have hll : l.length = un := by rw [← hl, List.length_map]; exact hun
                rw [hun] at hu hrl
                subst hu
                rw [hl] at hmid hnext
                have hB : Hid (Below w9.heap.size w9 w9.drew) := (Below.refl _ _).drew
                have hSS : Hid (∀ y', Below w9.heap.size w9 y' → y'.cell? ⟨P, x, none⟩ = some (.slice uad un ucap) ∧ y'.cell? ⟨w.heap.size, 3, none⟩ = some (.slice (some ⟨tg, tof, none⟩) T tcap) ∧ y'.cell? ⟨tg, tof + k * 4, none⟩ = some (.int .i64 (t.e : Int)) ∧ y'.cell? ⟨tg, tof + k * 4 + 1, none⟩ = some (.int .i64 (t.a : Int)) ∧ y'.cell? ⟨tg, tof + k * 4 + 2, none⟩ = some (.int .i64 (t.b : Int)) ∧ y'.cell? ⟨tg, tof + k * 4 + 3, none⟩ = some (.int .i64 t.key)) := hid (fun y' hy' => ⟨(hmid y' hy').1, hc4.out y' (hB9.trans (hy'.mono hB9.size))⟩)
                have hTx := hid (fun y' (hy' : Below w9.heap.size w9 y') => (hmid y' hy').2.1)
                have hcy := hid (fun y' (hy' : Below w9.heap.size w9 y') => (hmid y' hy').2.2)
                have hLm : (all ++ ex).length ≤ 1000 := by have := hL'.out; omega
                have x1' : (0 : Int) ≤ (x : Int) := by omega
                have x2' : (x : Int) < (F : Int) := by omega
                have hsz1 := hb1.out.size
                replace hw9 := hid hw9
                clear hmid hm hxc hdc he hcm' hl hc4 hB9 hun
                go_upto_region 20 with fail
                rw [hw9.out]
                clear cs zs hw9 ca hrs8
                refine wp_region_noPanic ?_
                refine beginK (k := 16) (S := fun y' => y'.cell? ⟨P, x, none⟩ = some (.slice uad un ucap) ∧ y'.cell? ⟨w.heap.size, 3, none⟩ = some (.slice (some ⟨tg, tof, none⟩) T tcap) ∧ y'.cell? ⟨tg, tof + k * 4, none⟩ = some (.int .i64 (t.e : Int)) ∧ y'.cell? ⟨tg, tof + k * 4 + 1, none⟩ = some (.int .i64 (t.a : Int)) ∧ y'.cell? ⟨tg, tof + k * 4 + 2, none⟩ = some (.int .i64 (t.b : Int)) ∧ y'.cell? ⟨tg, tof + k * 4 + 3, none⟩ = some (.int .i64 t.key)) (by kernel_rfl) (hSS.out _ hB.out) (fun _ => ?_)
                generalize w9.drew = x0 at hB ⊢
                refine takeK (i := 0) (v := ?_) (a' := ?_) ({ dst := some 109, op := Op.move (Operand.tmp 12), type := 146, pos := "ref.go:67", after := #[], guard := none }) rfl (by kernel_rfl) (by kernel_rfl) (by kernel_rfl) (by kernel_rfl) (by kernel_rfl) (fun _ _ _ h => h) (by rfl) ?_ (hSS.out _ hB.out) ?_ ?_
                rotate_left 2
                · (intro w' hSw; obtain ⟨q0, q1, q2, q3, q4, q5⟩ := hSw; go_simp; try with_reducible rfl)
                · (simp only [Act.put, List.setIfInBounds_toArray, List.set_cons_zero, List.set_cons_succ]; try rfl)
                refine takeK (i := 1) (v := ?_) (a' := ?_) ({ dst := some 110, op := Op.move (Operand.tmp 19), type := 3, pos := "ref.go:67", after := #[], guard := none }) rfl (by kernel_rfl) (by kernel_rfl) (by kernel_rfl) (by kernel_rfl) (by kernel_rfl) (fun _ _ _ h => h) (by rfl) ?_ (hSS.out _ hB.out) ?_ ?_
                rotate_left 2
                · (intro w' hSw; obtain ⟨q0, q1, q2, q3, q4, q5⟩ := hSw; go_simp; try with_reducible rfl)
                · (simp only [Act.put, List.setIfInBounds_toArray, List.set_cons_zero, List.set_cons_succ]; try rfl)
                refine takeK (i := 2) (v := ?_) (a' := ?_) ({ dst := some 111, op := Op.move (Operand.tmp 21), type := 30, pos := "ref.go:67", after := #[], guard := none }) rfl (by kernel_rfl) (by kernel_rfl) (by kernel_rfl) (by kernel_rfl) (by kernel_rfl) (fun _ _ _ h => h) (by rfl) ?_ (hSS.out _ hB.out) ?_ ?_
                rotate_left 2
                · (intro w' hSw; obtain ⟨q0, q1, q2, q3, q4, q5⟩ := hSw; go_simp; try with_reducible rfl)
                · (simp only [Act.put, List.setIfInBounds_toArray, List.set_cons_zero, List.set_cons_succ]; try rfl)
                refine takeK (i := 3) (v := ?_) (a' := ?_) ({ dst := some 112, op := Op.move (Operand.tmp 12), type := 146, pos := "ref.go:67", after := #[], guard := none }) rfl (by kernel_rfl) (by kernel_rfl) (by kernel_rfl) (by kernel_rfl) (by kernel_rfl) (fun _ _ _ h => h) (by rfl) ?_ (hSS.out _ hB.out) ?_ ?_
                rotate_left 2
                · (intro w' hSw; obtain ⟨q0, q1, q2, q3, q4, q5⟩ := hSw; go_simp; try with_reducible rfl)
                · (simp only [Act.put, List.setIfInBounds_toArray, List.set_cons_zero, List.set_cons_succ]; try rfl)
                refine takeK (i := 4) (v := ?_) (a' := ?_) ({ dst := some 113, op := Op.move (Operand.tmp 17), type := 3, pos := "ref.go:67", after := #[], guard := none }) rfl (by kernel_rfl) (by kernel_rfl) (by kernel_rfl) (by kernel_rfl) (by kernel_rfl) (fun _ _ _ h => h) (by rfl) ?_ (hSS.out _ hB.out) ?_ ?_
                rotate_left 2
                · (intro w' hSw; obtain ⟨q0, q1, q2, q3, q4, q5⟩ := hSw; go_simp; try with_reducible rfl)
                · (simp only [Act.put, List.setIfInBounds_toArray, List.set_cons_zero, List.set_cons_succ]; try rfl)
                refine takeK (i := 5) (v := ?_) (a' := ?_) ({ dst := some 114, op := Op.indexAddr 146 (Operand.tmp 112) (Operand.tmp 113), type := 0, pos := "ref.go:67", after := #[{ on := 3, ground := Ground.data }, { on := 4, ground := Ground.data }], guard := none }) rfl (by kernel_rfl) (by kernel_rfl) (by kernel_rfl) (by kernel_rfl) (by kernel_rfl) (fun _ _ _ h => h) (by rfl) ?_ (hSS.out _ hB.out) ?_ ?_
                rotate_left 2
                · (intro w' hSw; obtain ⟨q0, q1, q2, q3, q4, q5⟩ := hSw; go_simp; try with_reducible rfl)
                · (simp only [Act.put, List.setIfInBounds_toArray, List.set_cons_zero, List.set_cons_succ]; try rfl)
                refine takeK (i := 6) (v := ?_) (a' := ?_) ({ dst := some 115, op := Op.load 30 (Operand.tmp 114), type := 30, pos := "ref.go:67", after := #[{ on := 5, ground := Ground.data }], guard := none }) rfl (by kernel_rfl) (by kernel_rfl) (by kernel_rfl) (by kernel_rfl) (by kernel_rfl) (fun _ _ _ h => h) (by rfl) ?_ (hSS.out _ hB.out) ?_ ?_
                rotate_left 2
                · (intro w' hSw; obtain ⟨q0, q1, q2, q3, q4, q5⟩ := hSw; go_simp; try with_reducible rfl)
                · (simp only [Act.put, List.setIfInBounds_toArray, List.set_cons_zero, List.set_cons_succ]; try rfl)
                refine takeK (i := 8) (v := ?_) (a' := ?_) ({ dst := some 117, op := Op.fieldAddr 32 (Operand.tmp 3) 3, type := 0, pos := "ref.go:67", after := #[], guard := none }) rfl (by kernel_rfl) (by kernel_rfl) (by kernel_rfl) (by kernel_rfl) (by kernel_rfl) (fun _ _ _ h => h) (by rfl) ?_ (hSS.out _ hB.out) ?_ ?_
                rotate_left 2
                · (intro w' hSw; obtain ⟨q0, q1, q2, q3, q4, q5⟩ := hSw; go_simp; try with_reducible rfl)
                · (simp only [Act.put, List.setIfInBounds_toArray, List.set_cons_zero, List.set_cons_succ]; try rfl)
                refine takeK (i := 9) (v := ?_) (a' := ?_) ({ dst := some 118, op := Op.load 30 (Operand.tmp 117), type := 30, pos := "ref.go:67", after := #[{ on := 8, ground := Ground.data }], guard := none }) rfl (by kernel_rfl) (by kernel_rfl) (by kernel_rfl) (by kernel_rfl) (by kernel_rfl) (fun _ _ _ h => h) (by rfl) ?_ (hSS.out _ hB.out) ?_ ?_
                rotate_left 2
                · (intro w' hSw; obtain ⟨q0, q1, q2, q3, q4, q5⟩ := hSw; go_simp; try with_reducible rfl)
                · (simp only [Act.put, List.setIfInBounds_toArray, List.set_cons_zero, List.set_cons_succ]; try rfl)
                refine takeK (i := 10) (v := ?_) (a' := ?_) ({ dst := some 119, op := Op.move (Operand.tmp 16), type := 3, pos := "ref.go:67", after := #[], guard := none }) rfl (by kernel_rfl) (by kernel_rfl) (by kernel_rfl) (by kernel_rfl) (by kernel_rfl) (fun _ _ _ h => h) (by rfl) ?_ (hSS.out _ hB.out) ?_ ?_
                rotate_left 2
                · (intro w' hSw; obtain ⟨q0, q1, q2, q3, q4, q5⟩ := hSw; go_simp; try with_reducible rfl)
                · (simp only [Act.put, List.setIfInBounds_toArray, List.set_cons_zero, List.set_cons_succ]; try rfl)
                refine takeK (i := 11) (v := ?_) (a' := ?_) ({ dst := some 120, op := Op.indexAddr 30 (Operand.tmp 118) (Operand.tmp 119), type := 0, pos := "ref.go:67", after := #[{ on := 9, ground := Ground.data }, { on := 10, ground := Ground.data }], guard := none }) rfl (by kernel_rfl) (by kernel_rfl) (by kernel_rfl) (by kernel_rfl) (by kernel_rfl) (fun _ _ _ h => h) (by rfl) ?_ (hSS.out _ hB.out) ?_ ?_
                rotate_left 2
                · (intro w' hSw; obtain ⟨q0, q1, q2, q3, q4, q5⟩ := hSw; go_simp; try with_reducible rfl)
                · (simp only [Act.put, List.setIfInBounds_toArray, List.set_cons_zero, List.set_cons_succ]; try rfl)
                refine takeK (i := 12) (v := ?_) (a' := ?_) ({ dst := some 121, op := Op.load 62 (Operand.tmp 120), type := 62, pos := "ref.go:67", after := #[{ on := 11, ground := Ground.data }], guard := none }) rfl (by kernel_rfl) (by kernel_rfl) (by kernel_rfl) (by kernel_rfl) (by kernel_rfl) (fun _ _ _ h => h) (by rfl) ?_ (hSS.out _ hB.out) ?_ ?_
                rotate_left 2
                · (intro w' hSw; obtain ⟨q0, q1, q2, q3, q4, q5⟩ := hSw; go_simp; try with_reducible rfl)
                · (simp only [Act.put, List.setIfInBounds_toArray, List.set_cons_zero, List.set_cons_succ]; try rfl)
                refine readyK (rs := [7, 13]) (by kernel_rfl) (by simp) (fun i hi => ?_)
                simp only [List.mem_cons, List.not_mem_nil, or_false] at hi
                rcases hi with rfl | rfl
                · skip
                  refine oneK (o := { dst := some 116, op := Op.call { callee := Callee.builtin Builtin.append, args := #[Operand.tmp 111, Operand.tmp 115], argTypes := #[30, 30] }, type := 30, pos := "ref.go:67", after := #[{ on := 2, ground := Ground.data }, { on := 6, ground := Ground.data }], guard := none }) rfl (fun K hK => ?_)
                  refine step_ties rfl (.tmp 111) (.tmp 115) rfl w9.heap.size hB.out.size (.slice none 0 0) [] (by rfl) (World.ownsRow_nil _ _ _ _) (.slice uad un ucap) l (by rfl) (hTx.out _ hB.out) (by simp; omega) ?_
                  intro v1 xw hOwn hgrow
                  have hBx : Below (World.heap (x0)).size (x0) xw := (Below.refl _ _).grown hgrow (Nat.le_refl _) (fun k hk => by cases hk)
                  rw [List.nil_append] at hOwn
                  replace hOwn := hid hOwn
                  replace hB := hid (hB.out.trans (hBx.mono hB.out.size))
                  clear hgrow hBx
                  refine hK.out _ _ (.inr (hSS.out _ hB.out)) ?_
                  clear hK K
                  try simp only [Act.put, List.setIfInBounds_toArray, List.set_cons_zero, List.set_cons_succ]
                  refine readyK (rs := [13]) (by kernel_rfl) (by simp) (fun i hi => ?_)
                  simp only [List.mem_cons, List.not_mem_nil, or_false] at hi
                  subst hi
                  refine oneK (o := { dst := some 122, op := Op.buildSlice 30 1 #[(0, Operand.tmp 121)], type := 30, pos := "ref.go:67", after := #[{ on := 12, ground := Ground.data }], guard := none }) rfl (fun K hK => ?_)
                  go_simp
                  refine hK.out _ _ (.inr (hSS.out _ (hB.out.alloc hB.out.size (.cells #[.int .i64 (t.e : Int), .int .i64 (t.a : Int), .int .i64 (t.b : Int), .int .i64 t.key] 62)))) ?_
                  clear hK K
                  try simp only [Act.put, List.setIfInBounds_toArray, List.set_cons_zero, List.set_cons_succ]
                  have hLit := hid (tv_lit (xw) t)
                  replace hOwn := hid (hOwn.out.alloc (.cells #[.int .i64 (t.e : Int), .int .i64 (t.a : Int), .int .i64 (t.b : Int), .int .i64 t.key] 62))
                  replace hB := hid (hB.out.alloc hB.out.size (.cells #[.int .i64 (t.e : Int), .int .i64 (t.a : Int), .int .i64 (t.b : Int), .int .i64 t.key] 62))
                  generalize (xw).alloc (.cells #[.int .i64 (t.e : Int), .int .i64 (t.a : Int), .int .i64 (t.b : Int), .int .i64 t.key] 62) = xl at hLit hB hOwn ⊢
                  refine readyK (rs := [14]) (by kernel_rfl) (by simp) (fun i hi => ?_)
                  simp only [List.mem_cons, List.not_mem_nil, or_false] at hi
                  subst hi
                  refine oneK (o := { dst := some 123, op := Op.call { callee := Callee.builtin Builtin.append, args := #[Operand.tmp 116, Operand.tmp 122], argTypes := #[30, 30] }, type := 30, pos := "ref.go:67", after := #[{ on := 7, ground := Ground.data }, { on := 13, ground := Ground.data }, { on := 7, ground := Ground.chain }], guard := none }) rfl (fun K hK => ?_)
                  refine step_ties rfl (.tmp 116) (.tmp 122) rfl w9.heap.size hB.out.size v1 l (by rfl) hOwn.out _ [t] (by rfl) hLit.out (by simp; omega) ?_
                  intro v2 xv hOwn2 hgrow2
                  have hB2 := hid (below_grown hB.out (Nat.le_refl _) hOwn.out (Nat.le_refl _) hgrow2)
                  have hTv := hid (tv_own hOwn2)
                  clear hOwn2 hgrow2 hOwn hLit hB
                  refine hK.out _ _ (.inr (hSS.out _ hB2.out)) ?_
                  clear hK K
                  try simp only [Act.put, List.setIfInBounds_toArray, List.set_cons_zero, List.set_cons_succ]
                  have hB := hB2
                  refine takeK (i := 15) (v := ?_) (a' := ?_) ({ dst := some 124, op := Op.indexAddr 146 (Operand.tmp 109) (Operand.tmp 110), type := 0, pos := "ref.go:67", after := #[{ on := 0, ground := Ground.data }, { on := 1, ground := Ground.data }, { on := 0, ground := Ground.phase }, { on := 1, ground := Ground.phase }, { on := 2, ground := Ground.phase }, { on := 3, ground := Ground.phase }, { on := 4, ground := Ground.phase }, { on := 5, ground := Ground.phase }, { on := 6, ground := Ground.phase }, { on := 7, ground := Ground.phase }, { on := 8, ground := Ground.phase }, { on := 9, ground := Ground.phase }, { on := 10, ground := Ground.phase }, { on := 11, ground := Ground.phase }, { on := 12, ground := Ground.phase }, { on := 13, ground := Ground.phase }, { on := 14, ground := Ground.phase }], guard := none }) rfl (by kernel_rfl) (by kernel_rfl) (by kernel_rfl) (by kernel_rfl) (by kernel_rfl) (fun _ _ _ h => h) (by rfl) ?_ (hSS.out _ hB.out) ?_ ?_
                  rotate_left 2
                  · (intro w' hSw; obtain ⟨q0, q1, q2, q3, q4, q5⟩ := hSw; go_simp; try with_reducible rfl)
                  · (simp only [Act.put, List.setIfInBounds_toArray, List.set_cons_zero, List.set_cons_succ]; try rfl)
                  clear hB
                  clear hSS hTx
                  refine readyK (rs := [16]) (by kernel_rfl) (by simp) (fun i hi => ?_)
                  simp only [List.mem_cons, List.not_mem_nil, or_false] at hi
                  subst hi
                  refine oneK (o := { dst := none, op := Op.store 30 (Operand.tmp 124) (Operand.tmp 123), type := 0, pos := "ref.go:67", after := #[{ on := 15, ground := Ground.data }, { on := 14, ground := Ground.data }, { on := 14, ground := Ground.chain }, { on := 0, ground := Ground.phase }, { on := 1, ground := Ground.phase }, { on := 2, ground := Ground.phase }, { on := 3, ground := Ground.phase }, { on := 4, ground := Ground.phase }, { on := 5, ground := Ground.phase }, { on := 6, ground := Ground.phase }, { on := 7, ground := Ground.phase }, { on := 8, ground := Ground.phase }, { on := 9, ground := Ground.phase }, { on := 10, ground := Ground.phase }, { on := 11, ground := Ground.phase }, { on := 12, ground := Ground.phase }, { on := 13, ground := Ground.phase }, { on := 14, ground := Ground.phase }], guard := none }) rfl (fun K hK => ?_)
                  obtain ⟨m0, m1⟩ := hcy.out _ hB2.out
                  have hE := hid (hnext.out _ _ hB2.out hTv.out _ rfl)
                  obtain ⟨va, vc, hvf⟩ := hTv.out.form
                  obtain ⟨vl, hvl⟩ : ∃ vl, (l ++ [t]).length = vl := ⟨_, rfl⟩
                  rw [hvl] at hvf
                  clear hvl
                  subst hvf
                  go_simp
                  refine hK.out _ _ (.inl rfl) ?_
                  clear hK K
                  try simp only [Act.put, List.setIfInBounds_toArray, List.set_cons_zero, List.set_cons_succ]
                  refine doneK (by kernel_rfl) ?_ _
                  refine NoPanic.normal ?_
                  clear m0 m1 hTv hB2 hcy hnext
                  generalize xv.setCell ⟨P, y, none⟩ (.slice va vl vc) = wz at hE ⊢
                  obtain ⟨hz1', hz2', hz3'⟩ := hE.out
                  clear hE
                  have hzs := hz1'.size
                  replace hz1' := hid hz1'
                  replace hz2' := hid hz2'
                  replace hz3' := hid hz3'
                  go_wp2_with (at_builtin; refine wpList_append_own _ rfl (.tmp 125) (.tmp 127) 47 rfl w1.heap.size 3 j0 _ 1 8 Tryz.underlying47 hjf hy0 hy1 hy2 rfl (by decide) _ _ _ rfl (hz2'.out _ (balloc wz _)) ⟨wz.heap.size, 0, none⟩ 1 1 [.int .i64 (y : Int)] rfl rfl (one_new wz _ _) (by simp [Value.oneCell']) (by unfold maxLen; omega) (by omega) (by simp; omega) ?_; intro v' w' ho' hg' _)
                  have hrn := hid (hz3'.out _ (balloc wz _) _ _ hg' ho')
                  rw [List.append_assoc] at hrn
                  clear ho' hg' hz1' hz2' hz3'
                  obtain ⟨vad, vcap, hvf, _⟩ := own_any hrn.out.allr
                  subst hvf
                  go_wp2_with fail
                  go_roundw
                  case rel => exact ⟨k + 1, ex ++ [y], _, by omega, by go_num, hd2, hrn⟩
                  case measure => simp [intOf]; omega
                · skip
                  refine oneK (o := { dst := some 122, op := Op.buildSlice 30 1 #[(0, Operand.tmp 121)], type := 30, pos := "ref.go:67", after := #[{ on := 12, ground := Ground.data }], guard := none }) rfl (fun K hK => ?_)
                  go_simp
                  refine hK.out _ _ (.inr (hSS.out _ (hB.out.alloc hB.out.size (.cells #[.int .i64 (t.e : Int), .int .i64 (t.a : Int), .int .i64 (t.b : Int), .int .i64 t.key] 62)))) ?_
                  clear hK K
                  try simp only [Act.put, List.setIfInBounds_toArray, List.set_cons_zero, List.set_cons_succ]
                  have hLit := hid (tv_lit (x0) t)
                  replace hB := hid (hB.out.alloc hB.out.size (.cells #[.int .i64 (t.e : Int), .int .i64 (t.a : Int), .int .i64 (t.b : Int), .int .i64 t.key] 62))
                  generalize (x0).alloc (.cells #[.int .i64 (t.e : Int), .int .i64 (t.a : Int), .int .i64 (t.b : Int), .int .i64 t.key] 62) = xl at hLit hB ⊢
                  refine readyK (rs := [7]) (by kernel_rfl) (by simp) (fun i hi => ?_)
                  simp only [List.mem_cons, List.not_mem_nil, or_false] at hi
                  subst hi
                  refine oneK (o := { dst := some 116, op := Op.call { callee := Callee.builtin Builtin.append, args := #[Operand.tmp 111, Operand.tmp 115], argTypes := #[30, 30] }, type := 30, pos := "ref.go:67", after := #[{ on := 2, ground := Ground.data }, { on := 6, ground := Ground.data }], guard := none }) rfl (fun K hK => ?_)
                  refine step_ties rfl (.tmp 111) (.tmp 115) rfl w9.heap.size hB.out.size (.slice none 0 0) [] (by rfl) (World.ownsRow_nil _ _ _ _) (.slice uad un ucap) l (by rfl) (hTx.out _ hB.out) (by simp; omega) ?_
                  intro v1 xw hOwn hgrow
                  have hBx : Below (World.heap (xl)).size (xl) xw := (Below.refl _ _).grown hgrow (Nat.le_refl _) (fun k hk => by cases hk)
                  rw [List.nil_append] at hOwn
                  replace hOwn := hid hOwn
                  replace hLit := hid (hLit.out.below hBx)
                  replace hB := hid (hB.out.trans (hBx.mono hB.out.size))
                  clear hgrow hBx
                  refine hK.out _ _ (.inr (hSS.out _ hB.out)) ?_
                  clear hK K
                  try simp only [Act.put, List.setIfInBounds_toArray, List.set_cons_zero, List.set_cons_succ]
                  refine readyK (rs := [14]) (by kernel_rfl) (by simp) (fun i hi => ?_)
                  simp only [List.mem_cons, List.not_mem_nil, or_false] at hi
                  subst hi
                  refine oneK (o := { dst := some 123, op := Op.call { callee := Callee.builtin Builtin.append, args := #[Operand.tmp 116, Operand.tmp 122], argTypes := #[30, 30] }, type := 30, pos := "ref.go:67", after := #[{ on := 7, ground := Ground.data }, { on := 13, ground := Ground.data }, { on := 7, ground := Ground.chain }], guard := none }) rfl (fun K hK => ?_)
                  refine step_ties rfl (.tmp 116) (.tmp 122) rfl w9.heap.size hB.out.size v1 l (by rfl) hOwn.out _ [t] (by rfl) hLit.out (by simp; omega) ?_
                  intro v2 xv hOwn2 hgrow2
                  have hB2 := hid (below_grown hB.out (Nat.le_refl _) hOwn.out (Nat.le_refl _) hgrow2)
                  have hTv := hid (tv_own hOwn2)
                  clear hOwn2 hgrow2 hOwn hLit hB
                  refine hK.out _ _ (.inr (hSS.out _ hB2.out)) ?_
                  clear hK K
                  try simp only [Act.put, List.setIfInBounds_toArray, List.set_cons_zero, List.set_cons_succ]
                  have hB := hB2
                  refine takeK (i := 15) (v := ?_) (a' := ?_) ({ dst := some 124, op := Op.indexAddr 146 (Operand.tmp 109) (Operand.tmp 110), type := 0, pos := "ref.go:67", after := #[{ on := 0, ground := Ground.data }, { on := 1, ground := Ground.data }, { on := 0, ground := Ground.phase }, { on := 1, ground := Ground.phase }, { on := 2, ground := Ground.phase }, { on := 3, ground := Ground.phase }, { on := 4, ground := Ground.phase }, { on := 5, ground := Ground.phase }, { on := 6, ground := Ground.phase }, { on := 7, ground := Ground.phase }, { on := 8, ground := Ground.phase }, { on := 9, ground := Ground.phase }, { on := 10, ground := Ground.phase }, { on := 11, ground := Ground.phase }, { on := 12, ground := Ground.phase }, { on := 13, ground := Ground.phase }, { on := 14, ground := Ground.phase }], guard := none }) rfl (by kernel_rfl) (by kernel_rfl) (by kernel_rfl) (by kernel_rfl) (by kernel_rfl) (fun _ _ _ h => h) (by rfl) ?_ (hSS.out _ hB.out) ?_ ?_
                  rotate_left 2
                  · (intro w' hSw; obtain ⟨q0, q1, q2, q3, q4, q5⟩ := hSw; go_simp; try with_reducible rfl)
                  · (simp only [Act.put, List.setIfInBounds_toArray, List.set_cons_zero, List.set_cons_succ]; try rfl)
                  clear hB
                  clear hSS hTx
                  refine readyK (rs := [16]) (by kernel_rfl) (by simp) (fun i hi => ?_)
                  simp only [List.mem_cons, List.not_mem_nil, or_false] at hi
                  subst hi
                  refine oneK (o := { dst := none, op := Op.store 30 (Operand.tmp 124) (Operand.tmp 123), type := 0, pos := "ref.go:67", after := #[{ on := 15, ground := Ground.data }, { on := 14, ground := Ground.data }, { on := 14, ground := Ground.chain }, { on := 0, ground := Ground.phase }, { on := 1, ground := Ground.phase }, { on := 2, ground := Ground.phase }, { on := 3, ground := Ground.phase }, { on := 4, ground := Ground.phase }, { on := 5, ground := Ground.phase }, { on := 6, ground := Ground.phase }, { on := 7, ground := Ground.phase }, { on := 8, ground := Ground.phase }, { on := 9, ground := Ground.phase }, { on := 10, ground := Ground.phase }, { on := 11, ground := Ground.phase }, { on := 12, ground := Ground.phase }, { on := 13, ground := Ground.phase }, { on := 14, ground := Ground.phase }], guard := none }) rfl (fun K hK => ?_)
                  obtain ⟨m0, m1⟩ := hcy.out _ hB2.out
                  have hE := hid (hnext.out _ _ hB2.out hTv.out _ rfl)
                  obtain ⟨va, vc, hvf⟩ := hTv.out.form
                  obtain ⟨vl, hvl⟩ : ∃ vl, (l ++ [t]).length = vl := ⟨_, rfl⟩
                  rw [hvl] at hvf
                  clear hvl
                  subst hvf
                  go_simp
                  refine hK.out _ _ (.inl rfl) ?_
                  clear hK K
                  try simp only [Act.put, List.setIfInBounds_toArray, List.set_cons_zero, List.set_cons_succ]
                  refine doneK (by kernel_rfl) ?_ _
                  refine NoPanic.normal ?_
                  clear m0 m1 hTv hB2 hcy hnext
                  generalize xv.setCell ⟨P, y, none⟩ (.slice va vl vc) = wz at hE ⊢
                  obtain ⟨hz1', hz2', hz3'⟩ := hE.out
                  clear hE
                  have hzs := hz1'.size
                  replace hz1' := hid hz1'
                  replace hz2' := hid hz2'
                  replace hz3' := hid hz3'
                  go_wp2_with (at_builtin; refine wpList_append_own _ rfl (.tmp 125) (.tmp 127) 47 rfl w1.heap.size 3 j0 _ 1 8 Tryz.underlying47 hjf hy0 hy1 hy2 rfl (by decide) _ _ _ rfl (hz2'.out _ (balloc wz _)) ⟨wz.heap.size, 0, none⟩ 1 1 [.int .i64 (y : Int)] rfl rfl (one_new wz _ _) (by simp [Value.oneCell']) (by unfold maxLen; omega) (by omega) (by simp; omega) ?_; intro v' w' ho' hg' _)
                  have hrn := hid (hz3'.out _ (balloc wz _) _ _ hg' ho')
                  rw [List.append_assoc] at hrn
                  clear ho' hg' hz1' hz2' hz3'
                  obtain ⟨vad, vcap, hvf, _⟩ := own_any hrn.out.allr
                  subst hvf
                  go_wp2_with fail
                  go_roundw
                  case rel => exact ⟨k + 1, ex ++ [y], _, by omega, by go_num, hd2, hrn⟩
                  case measure => simp [intOf]; omega
            · have t2 : ((x : Int) != (c : Int)) = true := by simp; omega
              have hd2 : Hid (Dn fi (tA ts) (tB ts) (all ++ ex) (k + 1) c) := hid (hdc.out.next (fun q => absurd (hxy2.out (by
                obtain ⟨e1, e2⟩ := hta.out
                rw [e1, e2, hfx.out, hfy.out] at q
                exact q)) hxc))
              clear hxc hdc
              go_wp2_with fail
              go_roundw
              case rel => exact ⟨k + 1, ex, rd, by omega, by go_num, hd2, hrs8⟩
              case measure => simp [intOf]; omega
        · obtain rfl : k = T := by omega
          have v2 : decide ((k : Int) < (k : Int)) = false := decide_eq_false (by omega)
          have hd3 : Hid (∀ j f, j < i + 1 → (all ++ ex)[j]? = some f → Dn fi (tA ts) (tB ts) (all ++ ex) k f) := hid (fun j f hj hf => by
            by_cases e : j = i
            · subst e
              rw [hci] at hf
              cases hf
              exact hdc.out
            · have hf' : all[j]? = some f := by rw [List.getElem?_append_left (by rw [hL.out]; omega)] at hf; exact hf
              exact (hdn.out j f (by omega) hf').more (fun z hz => List.mem_append.2 (.inl hz)))
          have hlen2 : i + 1 ≤ (all ++ ex).length := by rw [hL']; omega
          clear hdc hdn
          go_wp2_with fail
          go_roundw
          case rel => exact ⟨i + 1, all ++ ex, rd, hlen2, by omega, by go_num, hd3, by rw [← hL']; exact hrs⟩
          case measure => simp [intOf]; omega
    · obtain rfl : i = L := by omega
      have v1 : decide ((i : Int) < (i : Int)) = false := decide_eq_false (by omega)
      obtain ⟨us, h1, h2, h3⟩ := hrs.out.roads
      have hall : Hid (∀ g, (∃ r ls, FR fi (tA ts) (tB ts) (· < ts.length) fa g r ls) ↔ g ∈ all) := hid (fun g => hrs.out.bs.all (fun f hf => by
        obtain ⟨j, hj⟩ := List.getElem?_of_mem hf
        have := hdn.out j f (by have := (List.getElem?_eq_some_iff.1 hj).1; omega) hj
        rw [hTl.out]
        exact this))
      have g1 : (0 : Int) ≤ (fb : Int) := by omega
      have g2 : (fb : Int) < (F : Int) := by omega
      have cs : wr.cell? ⟨S, fb, none⟩ = some (.bool (marks all fb)) := by rw [hrs.out.seen.cellAt fb (by omega), bl_get hfb]
      have hbl := hid (hb1.out.trans (hrs.out.bel.mono hb1.out.size))
      by_cases hm : fb ∈ all
      · obtain ⟨u, u1, u2⟩ := h2 fb hm
        have cu : wr.cell? ⟨P, fb, none⟩ = some u := by rw [h1.cellAt fb (by omega)]; exact u1
        rw [show marks all fb = true from by simpa [marks] using hm] at cs
        obtain ⟨ls, k1, k2, _⟩ := hrs.out.bs.rt fb hm
        have hfin : Hid (∀ y, Below wr.heap.size wr y → RdIs ts fi a b y u true) := hid (fun y hy => by
          unfold RdIs
          rw [hfae, hfbe]
          exact ⟨⟨fun _ => (hall.out fb).2 hm, fun _ => rfl⟩, fun _ => ⟨_, ls, k1, k2, u2.below hy⟩, (fun q => by cases q)⟩)
        obtain ⟨uad, ucap, hu⟩ := u2.form
        obtain ⟨un, hun⟩ : ∃ un, ((rd fb).map (tieAt ts)).length = un := ⟨_, rfl⟩
        rw [hun] at hu
        subst hu
        clear hrs hdn h1 h2 h3 u1 u2 k1 k2 hm hall hun
        go_upto_region 22 with fail
        go_region_held3 (fun y => y.cell? ⟨P, fb, none⟩ = some (.slice uad un ucap) ∧ y.cell? ⟨S, fb, none⟩ = some (.bool true)) (first | exact ⟨cu, cs⟩ | go_keep) (fail)
        go_wp2_with fail
        go_ret2
        exact ⟨_, _, rfl, hfin.out _ (Below.refl _ _).drew, hbl.out.drew⟩
      · have cu : wr.cell? ⟨P, fb, none⟩ = some (.slice none 0 0) := by rw [h1.cellAt fb (by omega)]; exact h3 fb hfb hm
        rw [show marks all fb = false from by simpa [marks] using hm] at cs
        have hfin : Hid (∀ y : World, RdIs ts fi a b y (.slice none 0 0) false) := hid (fun y => by
          unfold RdIs
          rw [hfae, hfbe]
          exact ⟨⟨(fun q => by cases q), fun q => absurd ((hall.out fb).1 q) hm⟩, (fun q => by cases q), fun _ => rfl⟩)
        clear hrs hdn h1 h2 h3 hm hall
        go_upto_region 22 with fail
        go_region_held3 (fun y => y.cell? ⟨P, fb, none⟩ = some (.slice none 0 0) ∧ y.cell? ⟨S, fb, none⟩ = some (.bool false)) (first | exact ⟨cu, cs⟩ | go_keep) (fail)
        go_wp2_with fail
        go_ret2
        exact ⟨_, _, rfl, hfin.out _, hbl.out.drew⟩
end Go.Proofs.YtdmkbcbgjdmgdaaGreatDoor.Wd
