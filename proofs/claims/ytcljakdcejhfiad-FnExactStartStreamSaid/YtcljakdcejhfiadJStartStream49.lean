import Derived.Test.YtcljakdcejhfiadJStartStream48
namespace Go.Proofs.Ytcljakdcejhfiad
open Go.RowKit
set_option maxRecDepth 1000000 in
set_option maxHeartbeats 4000000 in
theorem implEnc_any (m : PM) (a : Option Addr) (cap : Nat) (w : World) (hr : RdSl cSS w m.bufs (.slice a m.bufs.length cap)) (ht : totL List.length m.bufs ≤ 1048576) :
    Calls Try.prog 89 #[.agg #[.int .i64 m.kind, .int .i64 m.field, .int .i64 m.count, .slice a m.bufs.length cap]] w (EncPost w (encR m)) := by
  obtain ⟨kind, field, count, bs⟩ := m
  dsimp only at *
  have HR := hid hr
  have hb0 := below_new1 w (.cells #[.int .i64 kind, .int .i64 field, .int .i64 count, .slice a bs.length cap] 121)
  have HV := hid (validMessage_any ⟨kind, field, count, bs⟩ a cap _ (hr.later hb0) ht)
  dsimp only at HV
  have HB0 := hid hb0
  have HE := hid (encR_eq ⟨kind, field, count, bs⟩)
  clear hb0
  cases hok : encOK ⟨kind, field, count, bs⟩ with
  | false =>
    have HR0 : Hid (encR ⟨kind, field, count, bs⟩ = []) := hid (by rw [HE.out, hok]; rfl)
    rw [hok] at HV
    clear hok HE hr
    rw [HR0.out]
    go_enter Try.func89, Try.ntmps89
    go_wp2_with fail
    refine HV.out.mono ?_
    rintro e w1 ⟨rfl, b1⟩
    go_wp2
    go_ret
    exact encPost_nil (below_chain HB0.out b1) rfl
  | true =>
    have hR0 : encR ⟨kind, field, count, bs⟩ = encB ⟨kind, field, count, bs⟩ := by rw [HE.out, hok]; rfl
    rw [hok] at HV
    rw [hR0]
    have h1 := hok
    unfold encOK at h1
    simp only [Bool.and_eq_true, decide_eq_true_eq, msgOK] at h1
    obtain ⟨h2, h3⟩ := h1
    obtain ⟨K, rfl⟩ : ∃ K : Nat, kind = K := ⟨kind.toNat, by omega⟩
    obtain ⟨F, rfl⟩ : ∃ F : Nat, field = F := ⟨field.toNat, by omega⟩
    obtain ⟨C, rfl⟩ : ∃ C : Nat, count = C := ⟨count.toNat, by omega⟩
    have hB : encB ⟨(K : Int), (F : Int), (C : Int), bs⟩ = encM K F C bs := by simp [encB]
    rw [hB] at h3 ⊢
    exact implEnc_ok K F C bs a cap w hr ht (by omega) (by omega) (by omega) (by omega) h3 HV.out
end Go.Proofs.Ytcljakdcejhfiad
