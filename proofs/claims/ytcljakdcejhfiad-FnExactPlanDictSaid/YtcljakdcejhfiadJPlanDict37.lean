import Derived.Test.YtcljakdcejhfiadJPlanDict21
import Derived.Test.YtcljakdcejhfiadJPlanDict35
import Derived.Test.YtcljakdcejhfiadJPlanDict23
import Derived.Test.YtcljakdcejhfiadJPlanDict36
import Derived.Test.YtcljakdcejhfiadJPlanDict32
import Derived.Deep.LoopGhost
namespace Go.Proofs.Ytcljakdcejhfiad
open Go.RowKit Go.Maps Go.WideMaps
theorem ownsDict_kept {w w' : World} {m : Nat} {vs : List (List Nat)} {k : Nat} (h : OwnsDict w m vs k) (hk : w'.heap[m]? = w.heap[m]?) : OwnsDict w' m vs k := by
  obtain ⟨es, clock, h1, r⟩ := h
  exact ⟨es, clock, by rw [hk]; exact h1, r⟩
theorem zeroInt (w : World) : (zeroValue 3).run Try.prog w = .ok (.int .i64 0) w := by kernel_rfl
set_option maxHeartbeats 1000000 in
theorem has_any (v0 : Value) (m : Nat) (vs : List (List Nat)) (a : Option Addr) (c : Nat) (t : List Nat) (w : World) (ho : OwnsDict w m vs vs.length) (hv : ∀ s ∈ vs, BytesOK s) (hr : RdSl cByte w t (.slice a t.length c)) (hl : t.length ≤ 1048576) (h0 : ∃ a n c, v0 = .slice a n c) :
    Calls Try.prog 119 #[.agg #[v0, .map (some m)], .slice a t.length c] w fun e w' => e = .returned (.bool (decide (t ∈ vs))) ∧ Below w.heap.size w w' := by
  obtain ⟨a0, n0, c0, rfl⟩ := h0
  obtain ⟨hrd, hby⟩ := hr.rdB
  have HB0 := hid (below_new1 w (.cells #[.slice a0 n0 c0, .map (some m)] 133))
  have hcv := run_bstr (P := Try.prog) (c := c) Try.underlying69 Try.underlying5 Try.underlying9 (hrd.later HB0.out)
  have HKEY : Hid (keyOf Try.prog 9 (.string (bstr t)) = some (skey t)) := hid (keyOf_string_mk Try.underlying9 (by rw [bstr_size]; unfold maxLen; omega))
  have HHAS : Hid (Maps.has (dmap vs vs.length) (skey t) = decide (t ∈ vs)) := hid (by rw [dmap_has hv hby vs.length (Nat.le_refl _), List.take_length])
  have HO : Hid (OwnsDict (w.alloc (.cells #[.slice a0 n0 c0, .map (some m)] 133)) m vs vs.length) := hid (World.ownsMap.alloc ho _)
  clear ho hv hr hrd hby
  go_enter Try.func119, Try.ntmps119
  go_wp2_with (first | (at_lookup; refine wpList_lookup_own_ok_int _ rfl _ _ 131 rfl 9 3 .i64 keyed Try.underlying131 Try.underlying3 (zeroInt _) m vs.length (dmap vs vs.length) rfl HO.out _ _ rfl HKEY.out ?_))
  intro q _ _
  rw [HHAS.out]
  go_wp2
  go_ret
  exact ⟨rfl, HB0.out⟩
def Missed (w wr : World) (v : Value) (K m : Nat) (a1 : Option Addr) (c1 : Nat) (vs L : List (List Nat)) : Prop :=
  Gath w wr v L ∧ OwnsDict wr m vs vs.length ∧ wr.heap[K]? = some (.cells #[.slice a1 vs.length c1, .map (some m)] 133 (0, 0)) ∧ Below w.heap.size w wr
theorem Missed.later {w wr w' : World} {v : Value} {K m : Nat} {a1 : Option Addr} {c1 : Nat} {vs L : List (List Nat)} (h : Missed w wr v K m a1 c1 vs L) (hb : Below wr.heap.size wr w') : Missed w w' v K m a1 c1 vs L := by
  obtain ⟨h1, h2, h3, h4⟩ := h
  exact ⟨h1.kept hb, ownsDict_kept h2 (hb.block m h2.lt), (hb.block K (Array.getElem?_eq_some_iff.1 h3).1).trans h3, below_chain h4 hb⟩
theorem Missed.grow {w wr w' : World} {v v' u : Value} {K m : Nat} {a1 : Option Addr} {c1 : Nat} {vs L : List (List Nat)} {t : List Nat} {vals : List Value} (h : Missed w wr v K m a1 c1 vs L)
    (how : wr.ownsRow w.heap.size 69 1 v L.length vals) (hel : ∀ i, (h : i < L.length) → ∃ u, vals[i]? = some u ∧ RdSl cByte w L[i] u)
    (hown : w'.ownsRow w.heap.size 69 1 v' (L.length + 1) (vals ++ [u])) (hg : wr.grownBy w' v.ownBlock) (hu : RdSl cByte w t u) : Missed w w' v' K m a1 c1 vs (L ++ [t]) := by
  obtain ⟨h1, h2, h3, h4⟩ := h
  have hne : ∀ b, v.ownBlock = some b → b ≠ m ∧ b ≠ K := by
    intro b hb
    rcases how.2 with ⟨rfl, _⟩ | ⟨g, cap, cur, rfl, _, hh, _⟩
    · simp [Value.ownBlock] at hb
    · simp [Value.ownBlock] at hb
      subst hb
      refine ⟨fun e => ?_, fun e => ?_⟩
      · subst e
        obtain ⟨es, clock, q, _⟩ := h2
        rw [hh] at q; cases q
      · subst e
        rw [hh] at h3
        simp at h3
  have hvl : vals.length = L.length := by have := how.1; omega
  refine ⟨Gath.snoc hvl hel hown hu, ownsDict_kept h2 (hg.block m h2.lt (fun e => (hne m e.symm).1 rfl)), (hg.block K (Array.getElem?_eq_some_iff.1 h3).1 (fun e => (hne K e.symm).2 rfl)).trans h3, h4.grown hg h4.size (fun k hk => (World.ownsRow.lt how k hk).1)⟩
set_option maxRecDepth 1000000 in
set_option maxHeartbeats 4000000 in
theorem missing_any (a1 a2 : Option Addr) (c1 c2 : Nat) (vs : List (List Nat)) (cs : List PC) (w : World) (h1 : RdSl cSS w vs (.slice a1 vs.length c1)) (h2 : RdSl cCell w cs (.slice a2 cs.length c2)) (t1 : totL List.length vs ≤ 1048576) (t2 : cs.length ≤ 1048576) (t3 : txt cs ≤ 1048576) :
    Calls Try.prog 81 #[.slice a1 vs.length c1, .slice a2 cs.length c2] w fun e w' => ∃ v, e = .returned v ∧ RdSl cSS w' (lack vs (nn cs)) v ∧ Below w.heap.size w w' := by
  obtain ⟨i0, hi, hz0, hz1, hz2⟩ := info_parts infoSlG
  have HV := hid h1
  have HR := hid h2
  have HOK : Hid (∀ s ∈ vs, BytesOK s) := hid h1.allOK
  have HTX : Hid (∀ k, (h : k < cs.length) → cs[k].text.length ≤ 1048576) := hid (fun k h => by
    have := tot_at (fun c : PC => c.text.length) cs k h
    unfold txt at t3; omega)
  have HLL : Hid (∀ k, (lack vs (nn (cs.take k))).length ≤ k) := hid (fun k => by
    have h1 := (lack_small vs (nn (cs.take k))).2
    have h2 := nn_len (cs.take k)
    simp at h2; omega)
  clear h1 h2
  go_enter Try.func81, Try.ntmps81
  go_wp2
  go_step3
  go_wp2_with fail
  refine (newDict_any a1 c1 vs w HV.out t1).mono ?_
  rintro e w1 ⟨m, rfl, hm, ho, b1⟩
  have HM0 : Hid (Missed w (w1.alloc (.cells #[.slice a1 vs.length c1, .map (some m)] 133)) (.slice none 0 0) w1.heap.size m a1 c1 vs []) := hid ⟨⟨[], World.ownsRow_nil _ _ _ _, fun i h => by simp at h⟩, World.ownsMap.alloc ho _, heap_alloc_new w1 _, b1.alloc b1.size _⟩
  clear ho b1
  generalize hK : w1.heap.size = K at *
  generalize hW : w1.alloc (.cells #[.slice a1 vs.length c1, .map (some m)] 133) = W at *
  go_wp2
  go_step3
  go_wp2
  clear hK hW
  go_loopg [6, 15] cs.length (fun g s6 s15 wr => ∃ k : Nat, k + g = cs.length ∧ s15 = .int .i64 k ∧ (∃ a' c', s6 = .slice a' (lack vs (nn (cs.take k))).length c') ∧ Missed w wr s6 K m a1 c1 vs (lack vs (nn (cs.take k))))
  case atStart => exact ⟨0, by omega, rfl, ⟨none, 0, by simp [nn, lack, ddv]⟩, by simpa [nn, lack, ddv] using HM0.out⟩
  case round =>
    obtain ⟨k, hkg, rfl, ⟨a', c', rfl⟩, hmi⟩ := hrel
    have HM := hid hmi
    clear hmi HM0
    have hle := HLL.out k
    cases gk with
    | zero =>
      obtain rfl : k = cs.length := by omega
      have HX : Hid (RdSl cSS wr (lack vs (nn cs)) (.slice a' (lack vs (nn (cs.take cs.length))).length c')) := hid (by have := HM.out.1.rd HM.out.2.2.2; rw [List.take_length] at this ⊢; exact this)
      have HB := hid HM.out.2.2.2
      generalize (lack vs (nn (cs.take cs.length))).length = n at *
      go_wp2
      try rw [Exit.noGoto_ret]
      go_ret
      exact ⟨_, rfl, HX.out, HB.out⟩
    | succ g =>
      have hlt : k < cs.length := by omega
      have hki : (k : Int) < (cs.length : Int) := by omega
      have HB := hid HM.out.2.2.2
      obtain ⟨b, off, v0, v1, v2, rfl, hes, d0, d1, d2⟩ := (HR.out.later HB.out).at3 rfl hlt
      obtain ⟨ax, cx, e⟩ := cCell_shape hes
      simp only [List.cons.injEq, and_true] at e
      obtain ⟨rfl, rfl, rfl⟩ := e
      have hT : RdSl cByte w cs[k].text (.slice ax cs[k].text.length cx) := by
        obtain ⟨b', off', y0, y1, y2, e', hy, q0, q1, q2⟩ := HR.out.at3 (k := k) rfl hlt
        simp only [Option.some.injEq, Addr.mk.injEq, and_true] at e'
        obtain ⟨rfl, rfl⟩ := e'
        have hlt2 := World.block_lt_of_cell? _ _ q2
        have e2 := (HB.out.cell (p := ⟨b, off + k * 3 + 2, none⟩) hlt2).symm.trans d2
        rw [q2] at e2
        obtain ⟨v, e3, hv, _⟩ := cCell_rd hy
        simp only [List.cons.injEq, and_true] at e3
        simp only [Option.some.injEq] at e2
        rw [← e2, e3.2.2]; exact hv
      have HT := hid hT
      have HS := hid (nn_snoc cs k hlt)
      have hBN := below_new1 wr (.cells #[.bool cs[k].null, .int .i64 cs[k].num, .slice ax cs[k].text.length cx] 86)
      have HM1 : Hid (Missed w (wr.alloc (.cells #[.bool cs[k].null, .int .i64 cs[k].num, .slice ax cs[k].text.length cx] 86)) (.slice a' (lack vs (nn (cs.take k))).length c') K m a1 c1 vs (lack vs (nn (cs.take k)))) := hid (HM.out.later hBN)
      clear hes hT hBN
      cases hnul : cs[k].null
      · rw [hnul] at d0 HM1
        have HSN : Hid (nn (cs.take (k + 1)) = nn (cs.take k) ++ [cs[k].text]) := hid (by rw [HS.out, hnul]; rfl)
        have HLS := hid (lack_snoc vs (nn (cs.take k)) cs[k].text)
        have hk0 := cell_of_row _ _ 0 _ _ _ HM1.out.2.2.1
        have hk1 := cell_of_row _ _ 1 _ _ _ HM1.out.2.2.1
        simp at hk0 hk1
        have HQ : Hid (Calls Try.prog 119 #[.agg #[.slice a1 vs.length c1, .map (some m)], .slice ax cs[k].text.length cx] (wr.alloc (.cells #[.bool false, .int .i64 cs[k].num, .slice ax cs[k].text.length cx] 86)) fun e w' => e = .returned (.bool (decide (cs[k].text ∈ vs))) ∧ Missed w w' (.slice a' (lack vs (nn (cs.take k))).length c') K m a1 c1 vs (lack vs (nn (cs.take k))) ∧ w'.cell? ⟨wr.heap.size, 2, none⟩ = some (.slice ax cs[k].text.length cx)) := hid (by
          refine (has_any _ m vs ax cx cs[k].text _ HM1.out.2.1 HOK.out (HT.out.later HM1.out.2.2.2) (HTX.out k hlt) ⟨_, _, _, rfl⟩).mono ?_
          rintro e w' ⟨rfl, hb⟩
          exact ⟨rfl, HM1.out.later hb, by have := cell_of_row _ _ 2 _ _ _ (heap1 (w := wr) _ (by simpa using hb)); simpa using this⟩)
        by_cases hin : cs[k].text ∈ vs
        · have HL2 : Hid (lack vs (nn (cs.take (k + 1))) = lack vs (nn (cs.take k))) := hid (by rw [HSN.out, HLS.out, if_pos (.inl hin)])
          rw [decide_eq_true hin] at HQ
          generalize lack vs (nn (cs.take k)) = L at *
          go_wp2_with fail
          refine HQ.out.mono ?_
          rintro e w2 ⟨rfl, hm2, -⟩
          have HM2 := hid hm2
          clear hm2
          go_wp2
          go_roundg g
          case measure => omega
          case rel => exact ⟨k + 1, by omega, by go_num, ⟨a', c', by rw [HL2.out]⟩, by rw [HL2.out]; exact HM2.out⟩
        · rw [decide_eq_false hin] at HQ
          have HIN : Hid (cs[k].text ∈ lack vs (nn (cs.take k)) → lack vs (nn (cs.take (k + 1))) = lack vs (nn (cs.take k))) := hid (fun h => by rw [HSN.out, HLS.out, if_pos (.inr h)])
          have HOUT : Hid (cs[k].text ∉ lack vs (nn (cs.take k)) → lack vs (nn (cs.take (k + 1))) = lack vs (nn (cs.take k)) ++ [cs[k].text]) := hid (fun h => by rw [HSN.out, HLS.out, if_neg (by rintro (q | q); exact hin q; exact h q)])
          clear hin
          generalize lack vs (nn (cs.take k)) = L at *
          go_wp2_with fail
          refine HQ.out.mono ?_
          rintro e w2 ⟨rfl, hm2, hct⟩
          have HM2 := hid hm2
          clear hm2
          go_wp2
          go_loopg [29] L.length (fun g2 s29 wy => ∃ j : Nat, j + g2 = L.length ∧ s29 = .int .i64 j ∧ (∀ q, (h : q < L.length) → q < j → L[q] ≠ cs[k].text) ∧ w2 = wy)
          case atStart => exact ⟨0, by omega, rfl, fun q _ h => by omega, rfl⟩
          case round =>
            obtain ⟨j, hjg, rfl, hall, rfl⟩ := hrel
            have HA := hid hall
            clear hall
            cases gk with
            | zero =>
              obtain rfl : j = L.length := by omega
              have HL2 := hid (HOUT.out (fun h => by
                obtain ⟨q, hq, e⟩ := List.getElem_of_mem h
                exact HA.out q hq hq e))
              obtain ⟨vals, how, hel⟩ := HM2.out.1
              have HO := hid how
              have HEL := hid hel
              have HB2 := hid HM2.out.2.2.2
              clear how hel
              go_wp2_with (first | (at_builtin; refine wpList_append_own _ rfl _ _ 45 rfl w.heap.size 69 i0 (.slice none 0 0) 1 24 Try.underlying45 hi hz0 hz1 hz2 rfl (by decide) _ L.length _ rfl (HO.out.alloc _) ⟨w2.heap.size, 0, none⟩ 1 1 [.slice ax cs[k].text.length cx] rfl rfl (cell_one_new _ _ _) (one_cell rfl) (by unfold maxLen; omega) (by omega) (by have := HB2.out.size; simp; omega) ?_))
              intro v' w9 hown' hgrow _
              obtain ⟨a3, c3, hv3⟩ : ∃ a3 c3, v' = .slice a3 (L.length + 1) c3 := by
                rcases hown'.2 with ⟨_, h0⟩ | ⟨g, cc, _, h, _⟩
                · omega
                · exact ⟨_, cc, h⟩
              subst hv3
              have HM9 : Hid (Missed w w9 (.slice a3 (L.length + 1) c3) K m a1 c1 vs (L ++ [cs[k].text])) := hid ((HM2.out.later (below_new1 _ _)).grow (HO.out.alloc _) HEL.out hown' hgrow HT.out)
              clear hown' hgrow
              go_wp2
              go_roundg g
              case measure => omega
              case rel => exact ⟨k + 1, by omega, by go_num, ⟨a3, c3, by rw [HL2.out]; simp⟩, by rw [HL2.out]; exact HM9.out⟩
            | succ g2 =>
              have hjl : j < L.length := by omega
              have hji : (j : Int) < (L.length : Int) := by omega
              obtain ⟨b5, o5, a5, c5, rfl, hc5, hr5⟩ := (HM2.out.1.rd HM2.out.2.2.2).row hjl
              obtain ⟨hrd5, hby5⟩ := hr5.rdB
              obtain ⟨hrd6, hby6⟩ := (HT.out.later HM2.out.2.2.2).rdB
              have HE : Hid (Calls Try.prog 120 #[.slice a5 L[j].length c5, .slice ax cs[k].text.length cx] w2 fun e w' => e = .returned (.bool (decide (L[j] = cs[k].text))) ∧ w' = w2) := hid (bytesEqual_any a5 ax c5 cx _ _ w2 hrd5 hrd6 hby5 hby6)
              clear hr5 hrd5 hby5 hrd6 hby6
              by_cases hs : L[j] = cs[k].text
              · have HL2 := hid (HIN.out (hs ▸ List.getElem_mem hjl))
                rw [decide_eq_true hs] at HE
                clear hs
                go_wp2_with fail
                refine HE.out.mono ?_
                rintro e w3 ⟨rfl, rfl⟩
                go_wp2
                go_roundg g
                case measure => omega
                case rel => exact ⟨k + 1, by omega, by go_num, ⟨some ⟨b5, o5, none⟩, c', by rw [HL2.out]⟩, by rw [HL2.out]; exact HM2.out⟩
              · have HA2 : Hid (∀ q, (h : q < L.length) → q < j + 1 → L[q] ≠ cs[k].text) := hid (fun q hq hqj => by
                  by_cases e : q = j
                  · subst e; exact hs
                  · exact HA.out q hq (by omega))
                rw [decide_eq_false hs] at HE
                clear hs
                go_wp2_with fail
                refine HE.out.mono ?_
                rintro e w3 ⟨rfl, rfl⟩
                go_wp2
                go_roundg g2
                case measure => omega
                case rel => exact ⟨j + 1, by omega, by go_num, HA2.out, rfl⟩
      · have HL2 : Hid (lack vs (nn (cs.take (k + 1))) = lack vs (nn (cs.take k))) := hid (by rw [HS.out, hnul]; simp)
        rw [hnul] at d0 HM1
        generalize lack vs (nn (cs.take k)) = L at *
        go_wp2
        go_roundg g
        case measure => omega
        case rel => exact ⟨k + 1, by omega, by go_num, ⟨a', c', by rw [HL2.out]⟩, by rw [HL2.out]; exact HM1.out⟩
end Go.Proofs.Ytcljakdcejhfiad
